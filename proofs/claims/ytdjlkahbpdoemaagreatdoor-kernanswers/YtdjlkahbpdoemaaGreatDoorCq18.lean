import Derived.Test.YtdjlkahbpdoemaaGreatDoorCq17
set_option maxRecDepth 100000
set_option maxHeartbeats 8000000
set_option linter.unusedVariables false
set_option linter.unusedSimpArgs false
open Go Go.Vx Go.Proofs.Tryz Go.ChangeShapes Go.WideShapes Go.ChangeAt Go.RowKit
namespace Go.Proofs.YtdjlkahbpdoemaaGreatDoor
variable {α:Type}{args:Array Value}{D:DataW Value}{e:En}{ev n rights root:Int}{G:Int->Nat}{K K2:Kn}{P:Kn->Int->Prop}{y:Kt}{F:List (Nat×Obj)}{ci co:List (Z2)}{es:List En}{ks:List Int}{L2:List Ln}{cs post zs:List Value}{xs:List α}{bs:Lp}{N b bb cb i kb mb pb qb sb tb ub va xb:Nat}{o o2:Obj}{a:Sl}{T t:TypeId}{w w1 w2 wv:Z0}{S U V:Z1}{v:Z3}
theorem aoy{x:En}(h:dJ K.os K.rs (x.cap.kind,x.cap.num)=false):dI K x=(K,6):=by
 have e:zi K x=6:=if_pos h;unfold dI;rw[if_neg (by rw[e];decide),e]
theorem aox{x:En}(h:dJ K.os K.rs (x.cap.kind,x.cap.num)=true)(a:p6 x.cap=false):dI K x=(K,4):=by
 have e:zi K x=4:=by
  unfold zi;rw[if_neg (by rw[h];decide),if_pos a]
 unfold dI;rw[if_neg (by rw[e];decide),e]
theorem aoz{x:En}(h:dJ K.os K.rs (x.cap.kind,x.cap.num)=true)(a:p6 x.cap=true)(b:(aI K.bs K.es x.cw).2=0/\rW x.cap (aI K.bs K.es x.cw).1=false):dI K x=(K,4):=by
 have e:zi K x=4:=by
  unfold zi;rw[if_neg (by rw[h];decide),if_neg (by rw[a];decide),if_pos b]
 unfold dI;rw[if_neg (by rw[e];decide),e]
theorem aow{x:En}(h:dJ K.os K.rs (x.cap.kind,x.cap.num)=true)(b:p6 x.cap=true)(c:¬((aI K.bs K.es x.cw).2=0/\rW x.cap (aI K.bs K.es x.cw).1=false)):dI K x=({K with es:=iQ K.bs K.es x.at' x.cap x.cw},fU K.bs K.es x.at' x.cap x.cw):=by
 have e:zi K x=fU K.bs K.es x.at' x.cap x.cw:=by
  unfold zi;rw[if_neg (by rw[h];decide),if_neg (by rw[b];decide),if_neg c]
 unfold dI;by_cases a:fU K.bs K.es x.at' x.cap x.cw=0
 ·rw[if_pos (e▸a),a]
 rw[if_neg (e▸a),e,show iQ K.bs K.es x.at' x.cap x.cw=K.es from if_neg a]
theorem apO(h:au U w kb mb sb pb qb bb tb K)(hw:bE K)(x)(hg:ot x.cap)(hn:af x.cap.num)(ha:af x.at'.1)(hf:af x.cw.1):
  Zk 44 #[M kb,.agg (Gx x).toArray] w λe w'=>Zr e (O (dI K x).2)/\au U w' kb mb sb pb qb bb tb (dI K x).1/\Zn U w w':=by
 have⟨B,P⟩:=Ze (dI K x);rw[<-P];have OW:=Y (λ(h:dJ K.os K.rs (x.cap.kind,x.cap.num)=false)=>P.trans (aoy h));have o:=Y (λ(h:dJ K.os K.rs (x.cap.kind,x.cap.num)=true)(D:p6 x.cap=false)=>P.trans (aox h D));have f:=Y (λ(h:dJ K.os K.rs (x.cap.kind,x.cap.num)=true)(D:p6 x.cap=true)(h3:((aI K.bs K.es x.cw).2=0/\rW x.cap (aI K.bs K.es x.cw).1=false))=>P.trans (aoz h D h3));have c:=Y (λ(h:dJ K.os K.rs (x.cap.kind,x.cap.num)=true)(D:p6 x.cap=true)(h3:¬((aI K.bs K.es x.cw).2=0/\rW x.cap (aI K.bs K.es x.cw).1=false))=>P.trans (aow h D h3));have EK:=Y (λw=>alk x.cap hg w);have qW:Hid (∀F wv,aj U w kb mb sb pb qb bb tb F K wv->Zk 86 #[M kb,.agg #[O x.cap.kind,O x.cap.num]] wv λe w'=>Zr e (.bool (dJ K.os K.rs (x.cap.kind,x.cap.num)))/\Hid (aj U w kb mb sb pb qb bb tb F K w')):=λF wv h=>h.read (λV h=>MK h _ _ hn);have fh:=Y (λF wv(h:aj U w kb mb sb pb qb bb tb F K wv)=>h.read (λV h=>h.get x.cw hf));have OC:=Y (λF wv(h:aj U w kb mb sb pb qb bb tb F K wv)=>h.call (λV h=>h.put _ _ _ ha hf hn hg (by have:=hw.ne;omega)));have l:Hid (p6 x.cap=true->(aI K.bs K.es x.cw).2=0->∀w,Zk 89 #[bz x.cap,bz (aI K.bs K.es x.cw).1] w λe w'=>Zr e (.bool (rW x.cap (aI K.bs K.es x.cw).1))/\Zq w w'):=λh1 D w=>ajo _ _ ⟨(O8 h1).1,(O8 h1).2.1⟩ (by
  have⟨i,_,hi,_,hc⟩:=Tb D;rw[hc];have:=hw.rt _ (List.getElem_mem hi);exact⟨this.1,this.2.1⟩) w
 have⟨⟨q,a2⟩,⟨k,n,ri,bd,gu,m,ro,va⟩,⟨f1,f2⟩⟩:=x;dsimp only[Gx,bz] at*;show Zk 44 #[M kb,.agg #[O q,O a2,O k,O n,O ri,J bd,J gu,O m,O ro,J va,O f1,O f2]] w _;have⟨C,hC⟩:=Ze (⟨k,n,ri,bd,gu,m,ro,va⟩:Cp);have HC:=Y hC;rw[<-hC] at o f c EK l OC;have⟨u,hu⟩:=Ze ((aI K.bs K.es (f1,f2)).1);have⟨s,pJ⟩:=Ze ((aI K.bs K.es (f1,f2)).2);rw[<-hu,<-pJ] at fh f c l;have⟨B1,JL⟩:=Ze (dJ K.os K.rs (k,n));have⟨B2,uG⟩:=Ze (p6 C);rw[<-JL] at OW o f c qW;rw[<-uG] at o f c EK l;have⟨KP,nY⟩:=Ze ({K with es:=iQ K.bs K.es (q,a2) C (f1,f2)});have⟨ep,aa⟩:=Ze (fU K.bs K.es (q,a2) C (f1,f2));rw[<-nY,<-aa] at c OC;have⟨w1,ae⟩:=Ze (w.alloc (.cells #[O q,O a2,O k,O n,O ri,J bd,J gu,O m,O ro,J va,O f1,O f2] 86));have⟨ob,aP⟩:=Ze (w.heap.size);have⟨F,hF⟩:∃F:List (Nat×Obj),F=[(ob,.cells #[O q,O a2,O k,O n,O ri,J bd,J gu,O m,O ro,J va,O f1,O f2] 86 (0,0))]:=⟨_,rfl⟩
 have H1:Hid (aj U w kb mb sb pb qb bb tb F K w1):=by rw[ae,hF,aP];exact(aj.start h).alloc _
 have a:Hid ((ob,.cells #[O q,O a2,O k,O n,O ri,J bd,J gu,O m,O ro,J va,O f1,O f2] 86 (0,0))∈F):=by rw[hF];exact List.mem_cons_self
 have N:Hid (∀G K' wv,aj U w kb mb sb pb qb bb tb (G++F) K' wv->Zc wv kb 1 (M sb)/\Zc wv ob 0 (O q)/\Zc wv ob 1 (O a2)/\Zc wv ob 2 (O k)/\Zc wv ob 3 (O n)/\Zc wv ob 4 (O ri)/\Zc wv ob 5 (J bd)/\Zc wv ob 6 (J gu)/\Zc wv ob 7 (O m)/\Zc wv ob 8 (O ro)/\Zc wv ob 9 (J va)/\Zc wv ob 10 (O f1)/\Zc wv ob 11 (O f2)):=λG K' wv h=>⟨h.c.2.1,(cell_of_row _ _ 0 _ _ (0,0) (h.at (List.mem_append_right _ a.j))).trans rfl,(cell_of_row _ _ 1 _ _ (0,0) (h.at (List.mem_append_right _ a.j))).trans rfl,(cell_of_row _ _ 2 _ _ (0,0) (h.at (List.mem_append_right _ a.j))).trans rfl,(cell_of_row _ _ 3 _ _ (0,0) (h.at (List.mem_append_right _ a.j))).trans rfl,(cell_of_row _ _ 4 _ _ (0,0) (h.at (List.mem_append_right _ a.j))).trans rfl,(cell_of_row _ _ 5 _ _ (0,0) (h.at (List.mem_append_right _ a.j))).trans rfl,(cell_of_row _ _ 6 _ _ (0,0) (h.at (List.mem_append_right _ a.j))).trans rfl,(cell_of_row _ _ 7 _ _ (0,0) (h.at (List.mem_append_right _ a.j))).trans rfl,(cell_of_row _ _ 8 _ _ (0,0) (h.at (List.mem_append_right _ a.j))).trans rfl,(cell_of_row _ _ 9 _ _ (0,0) (h.at (List.mem_append_right _ a.j))).trans rfl,(cell_of_row _ _ 10 _ _ (0,0) (h.at (List.mem_append_right _ a.j))).trans rfl,(cell_of_row _ _ 11 _ _ (0,0) (h.at (List.mem_append_right _ a.j))).trans rfl⟩
 have t:Hid (∀G wv,aj U w kb mb sb pb qb bb tb (G++F) K wv->Zc wv kb 1 (M sb)/\Zc wv ob 10 (O f1)/\Zc wv ob 11 (O f2)):=λG wv h=>⟨h.c.2.1,(cell_of_row _ _ 10 _ _ (0,0) (h.at (List.mem_append_right _ a.j))).trans rfl,(cell_of_row _ _ 11 _ _ (0,0) (h.at (List.mem_append_right _ a.j))).trans rfl⟩
 obtain⟨_,Q,R,T,W,X,q5,q6,q7,q8,q9,yD,Fw⟩:=N.j [] _ _ H1.j;clear h hw hg hn ha hf P hC hu pJ JL uG nY aa hF;go_enter func44,ntmps44;go_upto_region 1 with fail
 rw[<-ae,<-aP];clear ae aP;go_wp2_with fail;refine(qW.j _ _ H1.j).m ?_;rintro e w3 ⟨rfl,g⟩;clear Q R T W X q5 q6 q7 q8 q9 yD Fw H1;obtain⟨_,Q,R,T,W,X,q5,q6,q7,q8,q9,yD,Fw⟩:=N.j [] _ _ g.j
 cases B1 with
 |false=>
  have b:=Y (by first|exact OW.j rfl|exact OW.j trivial:B=(K,6));go_wp2_with fail
  all_goals
   go_ret
   exact⟨Zz b.j,by rw[b.j];exact g.j.fin⟩
 |true=>
  replace o:Hid (B2=false->B=(K,4)):=by first|exact o.j rfl|exact o.j trivial
  replace f:Hid (B2=true->(s=0/\rW C u=false)->B=(K,4)):=by first|exact f.j rfl|exact f.j trivial
  replace c:Hid (B2=true->¬(s=0/\rW C u=false)->B=(KP,ep)):=by first|exact c.j rfl|exact c.j trivial
  clear OW qW;have EJ:=EK;go_wp2_with fail;refine(EJ.j _).m ?_;rintro e w2 ⟨rfl,ho⟩;have ab:=Y (g.j.quiet ho);clear ho g EJ EK Q R T W X q5 q6 q7 q8 q9 yD Fw;have g:=ab;clear ab
  cases B2 with
  |false=>
   have b:=Y (by first|exact o.j rfl|exact o.j trivial:B=(K,4));go_wp2_with fail
   all_goals
    go_ret
    exact⟨Zz b.j,by rw[b.j];exact g.j.fin⟩
  |true=>
   replace f:Hid ((s=0/\rW C u=false)->B=(K,4)):=by first|exact f.j rfl|exact f.j trivial
   replace c:Hid (¬(s=0/\rW C u=false)->B=(KP,ep)):=by first|exact c.j rfl|exact c.j trivial
   replace l:Hid (s=0->∀w,Zk 89 #[.agg #[O k,O n,O ri,J bd,J gu,O m,O ro,J va],.agg #[O u.kind,O u.num,O u.rights,J u.bh,J u.guard,O u.aC,O u.root,J u.va]] w λe w'=>Zr e (.bool (rW C u))/\Zq w w'):=by first|exact l.j rfl|exact l.j trivial
   clear o;go_upto_region 5 with fail
   go_cut [5,6] from 17 to 26 (λc7 c8 wx=>∃ub,c7=M ub/\c8=O s/\Hid (aj U w kb mb sb pb qb bb tb ((ub,.cells (bj u).toArray 84 (0,0))::F) K wx)/\Hid (¬U ub/\∀p∈F,p.1≠ub))
   case first=>
    have fg:=Y g.j.drew;have d:=Y (t.j [] _ fg.j);obtain⟨wA,dy⟩:=Ze ((w2.alloc (.cells #[O 0,O 0,O 0,J 0,J 0,O 0,O 0,J 0] 84)).drew);obtain⟨ub,v⟩:=Ze (w2.heap.size);have sq:Hid (aj U w kb mb sb pb qb bb tb ((ub,.cells jd.toArray 84 (0,0))::F) K wA):=by rw[dy,v];exact(g.j.alloc _).drew
    have fI:=Y (t.j [_] _ sq.j);have y:Hid (¬U ub/\∀p∈F,p.1≠ub):=⟨λhu=>by have:=g.j.low ub hu;omega,λp hp he=>by have:=aB (g.j.f p hp);omega⟩
    refine lY (S:=(λwv=>wv.cell? (E kb 1)=some (M sb)/\wv.cell? (E ob 10)=some (O f1)/\wv.cell? (E ob 11)=some (O f2))) Zx ?_;simp only[List.size_toArray,List.length_cons,List.length_nil,Nat.zero_add,Nat.reduceAdd];refine Zt 0 d.j ?_;refine Zt 1 d.j ?_;refine Zt 2 d.j ?_;refine Zt 3 d.j ?_;refine Zt 4 d.j ?_;refine Zt 5 d.j ?_;refine wpAnyH_ready (rs:=[6,10]) Zx (by simp) ?_;refine(AllReadyH.cons Zg (λK j=>?_) (AllReadyH.cons Zg (λK j=>?_) AllReadyH.nil))
    ·as_aux_lemma=>
      refine dc rfl 55 #[Operand.tmp 21,Operand.tmp 23] #[92,45] rfl #[M sb,.agg #[O f1,O f2]] (by first|rfl|simp[Act.eval,go_sem]) (by simp[go_sem]) (fh.j _ _ fg.j) ?_;rintro e w3 ⟨rfl,z⟩;have r:=Y (t.j [] _ z.j);clear v dy sq fI y;obtain⟨ub,v⟩:=Ze (w3.heap.size);obtain⟨wB,jR⟩:=Ze (w3.alloc (.cells #[O 0,O 0,O 0,J 0,J 0,O 0,O 0,J 0] 84));have mB:=Y (z.j.alloc (.cells #[O 0,O 0,O 0,J 0,J 0,O 0,O 0,J 0] 84 (0,0)));rw[<-jR,<-v] at mB;have EN:=Y (t.j [_] _ mB.j);have y:Hid (¬U ub/\∀p∈F,p.1≠ub):=⟨λhu=>by have:=z.j.low ub hu;omega,λp hp he=>by have:=aB (z.j.f p hp);omega⟩
      have A:=Y (aj.l9 mB.j u y.j.1 y.j.2);have i7:=Y (t.j [_] _ A.j);have pV:=Y (mB.j.at List.mem_cons_self);refine⟨_,rfl,?_⟩;refine Zb j r.j ?_;refine Zt 7 r.j ?_;refine Zt 8 r.j ?_;refine Zt 9 r.j ?_;refine Zy 10 (λK j=>?_);go_simp;rw[<-jR,<-v];clear jR v;refine Zb j EN.j ?_;refine Zy 11 (λK j=>?_);refine nx (.tmp 5) (.tmp 25) rfl rfl (u:=u) (ub:=ub) (by simp[Act.eval]) (by simp[Act.eval,bz,bj]) pV.j ?_;refine Zb j i7.j ?_;refine Zt 12 i7.j ?_;refine wpAnyH_done Zx ?_ _
      go_wp2
      go_meet;exact⟨_,rfl,rfl,A.j,y.j⟩
    as_aux_lemma=>
     go_simp;rw[<-dy,<-v];clear dy v;refine Zb j fI.j ?_;refine Zy 6 (λK j=>?_);refine dc rfl 55 #[Operand.tmp 21,Operand.tmp 23] #[92,45] rfl #[M sb,.agg #[O f1,O f2]] (by first|rfl|simp[Act.eval,go_sem]) (by simp[go_sem]) (fh.j _ _ sq.j) ?_;rintro e w3 ⟨rfl,z⟩;have r:=Y (t.j [_] _ z.j);have A:=Y (aj.l9 z.j u y.j.1 y.j.2);have i7:=Y (t.j [_] _ A.j);have pV:=Y (z.j.at List.mem_cons_self);refine⟨_,rfl,?_⟩;refine Zb j r.j ?_;refine Zt 7 r.j ?_;refine Zt 8 r.j ?_;refine Zt 9 r.j ?_;refine Zy 11 (λK j=>?_);refine nx (.tmp 5) (.tmp 25) rfl rfl (u:=u) (ub:=ub) (by simp[Act.eval]) (by simp[Act.eval,bz,bj]) pV.j ?_;refine Zb j i7.j ?_;refine Zt 12 i7.j ?_;refine wpAnyH_done Zx ?_ _
     go_wp2
     go_meet;exact⟨_,rfl,rfl,A.j,y.j⟩
   case rest=>
    obtain⟨ub,rfl,rfl,H4,Ll⟩:=hcut;obtain⟨⟨d0,d1,d2,d3,d4,d5,d6,d7⟩,_⟩:=lQ (show wc.heap[ub]?=some (.cells #[O u.kind,O u.num,O u.rights,J u.bh,J u.guard,O u.aC,O u.root,J u.va] 84 (0,0)) from H4.j.at List.mem_cons_self);obtain⟨_,Q,R,T,W,X,q5,q6,q7,q8,q9,yD,Fw⟩:=N.j [_] _ _ H4.j;clear g fh t;by_cases g0:s=0
    ·subst g0;obtain⟨B3,Gn⟩:=Ze (rW C u);have CV:Hid (∀w,Zk 89 #[.agg #[O k,O n,O ri,J bd,J gu,O m,O ro,J va],.agg #[O u.kind,O u.num,O u.rights,J u.bh,J u.guard,O u.aC,O u.root,J u.va]] w λe w'=>Zr e (.bool B3)/\Zq w w'):=by rw[Gn];first|exact l.j rfl|exact l.j trivial
     have A:=Y Gn;clear Gn l;generalize u.kind=v0 at*;generalize u.num=v1 at*;generalize u.rights=v2 at*;generalize u.bh=v3 at*;generalize u.guard=v4 at*;generalize u.aC=v5 at*;generalize u.root=v6 at*;generalize u.va=v7 at*;go_wp2_with fail;refine(CV.j _).m ?_;rintro e w4 ⟨rfl,eF⟩;have H5:=Y (H4.j.quiet eF);clear eF CV d0 d1 d2 d3 d4 d5 d6 d7 Q R T W X q5 q6 q7 q8 q9 yD Fw
     cases B3 with
     |false=>
      have b:=Y (f.j ⟨by first|rfl|trivial,A.j.symm⟩);go_wp2_with fail
      all_goals
       go_ret
       exact⟨Zz b.j,by rw[b.j];exact H5.j.fin⟩
     |true=>
      have b:=Y (c.j (λh=>by rw[<-A.j] at h;cases h.2));have Ue:=Y (OC.j _ _ H5.j.drew);have d:=Y (N.j [_] _ _ H5.j.drew);have aK:=d;go_upto_region 8 with fail
      go_region_held3 (λwv=>Zc wv kb 1 (M sb)/\Zc wv ob 0 (O q)/\Zc wv ob 1 (O a2)/\Zc wv ob 2 (O k)/\Zc wv ob 3 (O n)/\Zc wv ob 4 (O ri)/\Zc wv ob 5 (J bd)/\Zc wv ob 6 (J gu)/\Zc wv ob 7 (O m)/\Zc wv ob 8 (O ro)/\Zc wv ob 9 (J va)/\Zc wv ob 10 (O f1)/\Zc wv ob 11 (O f2)) (with_reducible (first|exact d.j|exact aK.j)) (first|(go_at_call 90;refine Ue.j.m ?_;rintro e w5 ⟨rfl,H6⟩;have aK:=Y (N.j [_] _ _ H6.j)));go_wp2_with fail
      all_goals
       go_ret;exact⟨Zz b.j,by rw[b.j];exact H6.j.fin⟩
    have g1:(s==0)=false:=by simpa using g0
    have b:=Y (c.j (λh=>g0 h.1));have H5:=H4;clear g0 l d0 d1 d2 d3 d4 d5 d6 d7 Q R T W X q5 q6 q7 q8 q9 yD Fw;have Ue:=Y (OC.j _ _ H5.j.drew);have d:=Y (N.j [_] _ _ H5.j.drew);have aK:=d;go_upto_region 8 with fail
    go_region_held3 (λwv=>Zc wv kb 1 (M sb)/\Zc wv ob 0 (O q)/\Zc wv ob 1 (O a2)/\Zc wv ob 2 (O k)/\Zc wv ob 3 (O n)/\Zc wv ob 4 (O ri)/\Zc wv ob 5 (J bd)/\Zc wv ob 6 (J gu)/\Zc wv ob 7 (O m)/\Zc wv ob 8 (O ro)/\Zc wv ob 9 (J va)/\Zc wv ob 10 (O f1)/\Zc wv ob 11 (O f2)) (with_reducible (first|exact d.j|exact aK.j)) (first|(go_at_call 90;refine Ue.j.m ?_;rintro e w5 ⟨rfl,H6⟩;have aK:=Y (N.j [_] _ _ H6.j)));go_wp2_with fail
    all_goals
     go_ret;exact⟨Zz b.j,by rw[b.j];exact H6.j.fin⟩
theorem get_mem(hf:Wf bs es)(d:Wx bs es)(he:e∈es):aI bs es e.at'=(e.cap,0):=by
 have⟨b,hb,h1,g,h⟩:=d.ix e he;have hs:=(FK d.nd hb).1;rw[h1] at hs;have a:∃i,gY bs es e.at'=.ok i:=by
  rw[NU hs g h];cases c:jW es e.at' with
  |none=>have:=jQ c e he;simp at this
  |some i=>exact⟨i,rfl⟩
 have⟨i,hi⟩:=a;have⟨f,c⟩:=JR hi;unfold aI;rw[hi];dsimp only;rw[getD_at es i f,hf.once _ (List.getElem_mem f) e he c]
theorem aay{s:Sl}(h:(aI bs es s).2=0):∃e∈es,e.at'=s/\e.cap=(aI bs es s).1:=by
 have⟨i,_,hi,h1,a⟩:=Tb h;exact⟨es[i],List.getElem_mem hi,h1,a.symm⟩
theorem ajx{s:Sl}(h:(aI bs es s).2=0)(a:0<(aI bs es s).1.root):qu es s (aI bs es s).1=true:=by
 have⟨e,he,h1,b⟩:=aay h;unfold qu;rw[List.any_eq_true];exact⟨e,he,by rw[b,decide_eq_true a,decide_eq_true h1];rfl⟩
theorem ajz(hf:Wf bs es)(c:Wx bs es){s:Sl}(h:(aI bs es s).2=0)(b:¬0<(aI bs es s).1.root)(d:(aI bs es s).1.kind≠3):qu es s (aI bs es s).1=false:=by
 unfold qu;rw[List.any_eq_false];intro x e a;rw[decide_eq_false d,Bool.false_and,Bool.or_false,Bool.and_eq_true,decide_eq_true_eq,decide_eq_true_eq] at a;have:=get_mem hf c e;rw[a.2] at this;rw[this] at b;exact b a.1
theorem ajv(hf:Wf bs es)(d:Wx bs es){s:Sl}(h:(aI bs es s).2=0)(e:¬0<(aI bs es s).1.root)(f:(aI bs es s).1.kind=3):qu es s (aI bs es s).1=(gE es ((aI bs es s).1.kind,(aI bs es s).1.num)).any λa=>decide (0<(aI bs es a).1.root):=by
 rw[Bool.eq_iff_iff,List.any_eq_true];unfold qu gE;rw[List.any_eq_true];constructor
 ·rintro⟨x,hm,b⟩;rw[Bool.and_eq_true,Bool.or_eq_true,decide_eq_true_eq,decide_eq_true_eq,decide_eq_true f,Bool.true_and,decide_eq_true_eq] at b;have hg:=get_mem hf d hm;rcases b.2 with c|c
  ·rw[c] at hg;rw[hg] at e;exact absurd b.1 e
  exact⟨x.at',List.mem_map.2 ⟨x,List.mem_filter.2 ⟨hm,decide_eq_true c⟩,rfl⟩,hg▸decide_eq_true b.1⟩
 rintro⟨a,ha,b⟩;obtain⟨x,hm,rfl⟩:=List.mem_map.1 ha;have⟨hm,c⟩:=List.mem_filter.1 hm;rw[get_mem hf d hm] at b;exact⟨x,hm,by rw[b,decide_eq_true f,decide_eq_true (of_decide_eq_true c)];simp⟩
theorem amf(hf:Wf bs es)(c:Wx bs es){o:Sl}(h:a∈gE es o):(aI bs es a).2=0/\af a.1:=by
 obtain⟨x,hm,rfl⟩:=List.mem_map.1 h;have hm:=(List.mem_filter.1 hm).1;have⟨b,hb,h1,_⟩:=c.ix x hm;exact⟨get_mem hf c hm▸rfl,h1▸c.ib b hb⟩
theorem aoU(va:Nat)(hv:va<4294967296):IntKind.u32.wrap ((va:Int) - ((va % 4194304:Nat):Int))=((va/4194304*4194304:Nat):Int):=by
 rw[IntKind.wrap_u32];omega
theorem aeJ(va:Nat)(hv:va<4294967296)(w):Zk 134 #[J (va:Int)] w λe w'=>Zr e (J ((va/4194304*4194304:Nat):Int))/\w'=w:=by
 have h1:Int.tmod (va:Int) 4194304=((va % 4194304:Nat):Int):=by rw[Int.tmod_eq_emod_of_nonneg Z];omega
 have a:=aoU va hv;generalize ((va/4194304*4194304:Nat):Int)=r at*;generalize ((va % 4194304:Nat):Int)=m at*;generalize (va:Int)=v at*;go_enter func134,ntmps134;go_wp2_with fail;all_goals
  go_ret;exact⟨rfl,rfl⟩
theorem aj.hold(h:aj U w kb mb sb pb qb bb tb F K wv)(o):Zk 222 #[M sb,.agg #[O o.1,O o.2]] wv λe w'=>∃v b,Zr e v/\Hid (aj U w kb mb sb pb qb bb tb b K w'/\ax dG w' wv.heap.size 45 v (gE K.es o)/\(∀q∈F,q∈b)/\∀g,v.ownBlock=some g->∃ob,(g,ob)∈b):=by
 have f:=h;have⟨⟨V,h1,k,j⟩,l,m⟩:=h;refine(j.ame o).m ?_;rintro e w' ⟨v,rfl,c,i⟩;cases hv:v.ownBlock with
 |none=>exact⟨v,F,rfl,f.quiet i,c,λq d=>d,λg hg=>by rw[hv] at hg;cases hg⟩
 |some g=>
  have hg:=iu c hv;exact⟨v,(g,w'.heap[g]'hg.2)::F,rfl,f.more i (Array.getElem?_eq_getElem hg.2) hg.1,c,λq d=>List.mem_cons_of_mem _ d,λg2 a=>by rw[hv] at a;injection a with a;subst a;exact⟨_,List.mem_cons_self⟩⟩
theorem aj.Wa(h:aj U w kb mb sb pb qb bb tb F K wv)(a:aj U w kb mb sb pb qb bb tb F K2 w2){g:Nat}(hm:(g,o)∈F)(j):w2.cell? (E g j)=wv.cell? (E g j):=by
 unfold World.cell?;rw[(a.at hm).trans (h.at hm).symm]
theorem ajC(h:au U w kb mb sb pb qb bb tb K)(hw:bE K)(b o2 root)(va:Nat)(mO:va<4294967296):
  Zk 135 #[M kb,.agg #[O b,O o2],O root,J (va:Int)] w λe w'=>∃K2 ev,Zr e (O ev)/\au U w' kb mb sb pb qb bb tb K2/\Zn U w w'/\(K2,ev)=(if ((gE K.es (b,o2)).any λa=>decide (0<(aI K.bs K.es a).1.root))=true then (K,16) else ({K with f:=(ly K.f K.n root va o2).1},((ly K.f K.n root va o2).2:Int))):=by
 have⟨w1,ae⟩:=Ze (w.alloc (.cells #[O b,O o2] 71));have⟨ob,aP⟩:=Ze (w.heap.size);have⟨F,hF⟩:∃F:List (Nat×Obj),F=[(ob,.cells #[O b,O o2] 71 (0,0))]:=⟨_,rfl⟩;have H1:Hid (aj U w kb mb sb pb qb bb tb F K w1):=by rw[ae,hF,aP];exact(aj.start h).alloc _
 have HM:Hid ((ob,.cells #[O b,O o2] 71 (0,0))∈F):=by rw[hF];exact List.mem_cons_self
 have az:Hid (∀G C wv,aj U w kb mb sb pb qb bb tb (G++F) C wv->Zc wv kb 0 (M mb)/\Zc wv kb 1 (M sb)/\Zc wv ob 0 (O b)/\Zc wv ob 1 (O o2)):=λG C wv h=>⟨h.c.1,h.c.2.1,h.two (List.mem_append_right _ HM.j)⟩;have⟨KT,Em⟩:=Ze ({K with f:=(ly K.f K.n root va o2).1});have⟨et,het⟩:=Ze (((ly K.f K.n root va o2).2:Nat):Int);have lT:Hid (∀F wv,aj U w kb mb sb pb qb bb tb F K wv->Zk 223 #[M mb,O root,J (va:Int),O o2] wv λe w'=>Zr e (O et)/\Hid (aj U w kb mb sb pb qb bb tb F KT w')):=λF wv h=>by rw[Em,het];exact h.call (λV h=>h.table root va mO o2)
 have G5:=Y (λwv(h:aj U w kb mb sb pb qb bb tb F K wv)=>h.hold (b,o2));have Ut:=Y (λ(a:Sl)(ha:af a.1)F wv(h:aj U w kb mb sb pb qb bb tb F K wv)=>h.read (λV h=>h.get a ha));have G0:Hid ((gE K.es (b,o2)).length<=16384/\∀a∈gE K.es (b,o2),af a.1):=⟨Nat.le_trans (ZO _ _) hw.ne,λa ha=>(amf hw.c hw.x ha).2⟩;have⟨ls,D⟩:=Ze (gE K.es (b,o2));rw[<-D] at G5 G0|-;obtain⟨Kx,Cm⟩:=Ze ((if (ls.any λa=>decide (0<(aI K.bs K.es a).1.root))=true then (K,16) else ({K with f:=(ly K.f K.n root va o2).1},((ly K.f K.n root va o2).2:Int))):Kn×Int);rw[<-Cm];rw[<-Em,<-het] at Cm;have sj:=Y Cm;have i:Hid (Zc w1.drew kb 1 (M sb)/\Zc w1.drew ob 0 (O b)/\Zc w1.drew ob 1 (O o2)):=(az.j [] _ _ H1.j.drew).2;have N:=i;have aa:=Y (G5.j _ H1.j.drew);generalize (va:Int)=vi at*;clear h hw mO hF Em het G5 D Cm;go_enter func135,ntmps135;go_upto_region 1 with fail
 rw[<-ae,<-aP];clear ae aP;go_region_held3 (λwv=>Zc wv kb 1 (M sb)/\Zc wv ob 0 (O b)/\Zc wv ob 1 (O o2)) (with_reducible (first|exact i.j|exact N.j)) (first|(go_at_call 222;refine aa.j.m ?_;rintro e w2 ⟨v,B,rfl,r⟩;obtain⟨p,c,rfl,nS⟩:=r.j.2.1.form;have eV:=Y nS;clear nS;have N:Hid (Zc w2 kb 1 (M sb)/\Zc w2 ob 0 (O b)/\Zc w2 ob 1 (O o2)):=⟨r.j.1.c.2.1,r.j.1.two (r.j.2.2.1 _ HM.j)⟩));have⟨s,hM⟩:=Ze (ls.length);have vg:=Y hM;have ab:s<=16384:=by have:=G0.j.1;omega
 rw[<-hM];have HG:Hid (0<s->∃g o,p=some (E g 0)/\(g,o)∈B):=λh0=>by
  have⟨g,hp,_,_,hv⟩:=eV.j.2.2 (by have:=vg.j;omega);have⟨o,ho⟩:=r.j.2.2.2 g hv;exact⟨g,o,hp,ho⟩
 have EV:Hid ((ob,.cells #[O b,O o2] 71 (0,0))∈B):=r.j.2.2.1 _ HM.j;have P:=Y r.j.1;have az:Hid (∀G C wv,aj U w kb mb sb pb qb bb tb (G++B) C wv->Zc wv kb 0 (M mb)/\Zc wv ob 1 (O o2)):=λG C wv h=>⟨h.c.1,(h.two (List.mem_append_right _ EV.j)).2⟩;clear hM eV HM;go_wp2;go_loopw [10,11,12,20] (λ_ _ _ d wr=>∃j:Nat,d=O (j:Int)/\j<=s/\Hid (∀a∈ls.take j,¬0<(aI K.bs K.es a).1.root)/\Hid (aj U w kb mb sb pb qb bb tb B K wr)) (λ_ _ _ d _=>s - (RowKit.intOf d).toNat)
 case atStart=>exact⟨0,rfl,Z,(λa ha=>by simp at ha),P⟩
 case round=>
  obtain⟨j,rfl,hj,HQ,HI⟩:=hrel;by_cases al:j<s
  ·have bW:j<ls.length:=by have:=vg.j;omega
   have h1:(j:Int)<(s:Int):=Z;have gF:0<=(j:Int)/\(j:Int)<(s:Int):=Z;have xe:=Zf j Z;obtain⟨g,o,rfl,Q⟩:=HG.j Z;have⟨b0,b1⟩:=ai1 r.j.2.1 bW;rw[<-P.j.Wa HI.j Q] at b0 b1;have HT:=Y (List.take_succ_eq_append_getElem bW);have fk:=List.getElem_mem bW;have R:=Y (Ut.j ls[j] (G0.j.2 _ fk));generalize ls[j]=y at b0 b1 HT fk R;have qV:=Y fk;obtain⟨l,m⟩:=y;dsimp only at b0 b1 R;obtain⟨u,hu⟩:=Ze ((aI K.bs K.es (l,m)).1);obtain⟨eg,pJ⟩:=Ze ((aI K.bs K.es (l,m)).2);rw[<-hu,<-pJ] at R;have HU:=Y hu;obtain⟨w3,cO⟩:=Ze (wr.alloc (.cells #[O l,O m] 45));obtain⟨T,FU⟩:=Ze (wr.heap.size);obtain⟨n,NO⟩:∃n:List (Nat×Obj),n=(T,.cells #[O l,O m] 45 (0,0))::B:=⟨_,rfl⟩
   have W:Hid (aj U w kb mb sb pb qb bb tb n K w3):=by rw[cO,NO,FU];exact HI.j.alloc _
   have qX:=Y NO;have A:Hid (∀G wv,aj U w kb mb sb pb qb bb tb (G++n) K wv->Zc wv kb 1 (M sb)/\Zc wv T 0 (O l)/\Zc wv T 1 (O m)):=λG wv h=>⟨h.c.2.1,h.two (List.mem_append_right _ (by rw[NO];exact List.mem_cons_self))⟩
   clear hu pJ fk NO Q al;go_upto_region 4 with fail
   rw[<-cO,<-FU];clear cO FU b0 b1;go_upto_region 4 with fail
   go_cut [11,12] from 24 to 32 (λc7 c8 wx=>∃ub,c7=M ub/\c8=O eg/\Hid (aj U w kb mb sb pb qb bb tb ((ub,.cells (bj u).toArray 84 (0,0))::n) K wx)/\Hid (¬U ub/\∀p∈n,p.1≠ub))
   case first=>
    have P:=Y W.j.drew;have i:=Y (A.j [] _ P.j);obtain⟨wA,dy⟩:=Ze ((w3.alloc (.cells #[O 0,O 0,O 0,J 0,J 0,O 0,O 0,J 0] 84)).drew);obtain⟨ub,t⟩:=Ze (w3.heap.size);have sq:Hid (aj U w kb mb sb pb qb bb tb ((ub,.cells jd.toArray 84 (0,0))::n) K wA):=by rw[dy,t];exact(W.j.alloc _).drew
    have fI:=Y (A.j [_] _ sq.j);have x:Hid (¬U ub/\∀p∈n,p.1≠ub):=⟨λhu=>by have:=W.j.low ub hu;omega,λp hp he=>by have:=aB (W.j.f p hp);omega⟩
    refine lY (S:=(λwv=>wv.cell? (E kb 1)=some (M sb)/\wv.cell? (E T 0)=some (O l)/\wv.cell? (E T 1)=some (O m))) Zx ?_;simp only[List.size_toArray,List.length_cons,List.length_nil,Nat.zero_add,Nat.reduceAdd];refine Zt 0 i.j ?_;refine Zt 1 i.j ?_;refine Zt 2 i.j ?_;refine Zt 3 i.j ?_;refine Zt 4 i.j ?_;refine wpAnyH_ready (rs:=[5,9]) Zx (by simp) ?_;refine(AllReadyH.cons Zg (λK k=>?_) (AllReadyH.cons Zg (λK k=>?_) AllReadyH.nil))
    ·as_aux_lemma=>
      refine dc rfl 55 #[Operand.tmp 28,Operand.tmp 29] #[92,45] rfl #[M sb,.agg #[O l,O m]] (by first|rfl|simp[Act.eval,go_sem]) (by simp[go_sem]) (R.j _ _ P.j) ?_;rintro e w4 ⟨rfl,z⟩;have q:=Y (A.j [] _ z.j);clear t dy sq fI x;obtain⟨ub,t⟩:=Ze (w4.heap.size);obtain⟨wB,jR⟩:=Ze (w4.alloc (.cells #[O 0,O 0,O 0,J 0,J 0,O 0,O 0,J 0] 84));have mB:=Y (z.j.alloc (.cells #[O 0,O 0,O 0,J 0,J 0,O 0,O 0,J 0] 84 (0,0)));rw[<-jR,<-t] at mB;have EN:=Y (A.j [_] _ mB.j);have x:Hid (¬U ub/\∀p∈n,p.1≠ub):=⟨λhu=>by have:=z.j.low ub hu;omega,λp hp he=>by have:=aB (z.j.f p hp);omega⟩
      have X:=Y (aj.l9 mB.j u x.j.1 x.j.2);have i7:=Y (A.j [_] _ X.j);have pV:=Y (mB.j.at List.mem_cons_self);refine⟨_,rfl,?_⟩;refine Zb k q.j ?_;refine Zt 6 q.j ?_;refine Zt 7 q.j ?_;refine Zt 8 q.j ?_;refine Zy 9 (λK k=>?_);go_simp;rw[<-jR,<-t];clear jR t;refine Zb k EN.j ?_;refine Zy 10 (λK k=>?_);refine nx (.tmp 11) (.tmp 31) rfl rfl (u:=u) (ub:=ub) (by simp[Act.eval]) (by simp[Act.eval,bz,bj]) pV.j ?_;refine Zb k i7.j ?_;refine Zt 11 i7.j ?_;refine wpAnyH_done Zx ?_ _
      go_wp2
      go_meet;exact⟨_,rfl,rfl,X.j,x.j⟩
    as_aux_lemma=>
     go_simp;rw[<-dy,<-t];clear dy t;refine Zb k fI.j ?_;refine Zy 5 (λK k=>?_);refine dc rfl 55 #[Operand.tmp 28,Operand.tmp 29] #[92,45] rfl #[M sb,.agg #[O l,O m]] (by first|rfl|simp[Act.eval,go_sem]) (by simp[go_sem]) (R.j _ _ sq.j) ?_;rintro e w4 ⟨rfl,z⟩;have q:=Y (A.j [_] _ z.j);have X:=Y (aj.l9 z.j u x.j.1 x.j.2);have i7:=Y (A.j [_] _ X.j);have pV:=Y (z.j.at List.mem_cons_self);refine⟨_,rfl,?_⟩;refine Zb k q.j ?_;refine Zt 6 q.j ?_;refine Zt 7 q.j ?_;refine Zt 8 q.j ?_;refine Zy 10 (λK k=>?_);refine nx (.tmp 11) (.tmp 31) rfl rfl (u:=u) (ub:=ub) (by simp[Act.eval]) (by simp[Act.eval,bz,bj]) pV.j ?_;refine Zb k i7.j ?_;refine Zt 11 i7.j ?_;refine wpAnyH_done Zx ?_ _
     go_wp2
     go_meet;exact⟨_,rfl,rfl,X.j,x.j⟩
   case rest=>
    obtain⟨ub,rfl,rfl,H4,Ll⟩:=hcut
    have zx:Hid (aj U w kb mb sb pb qb bb tb B K wc):=by
     have:=H4.j.tail;rw[qX.j] at this;exact this.tail
    obtain⟨⟨d0,d1,d2,d3,d4,d5,d6,d7⟩,_⟩:=lQ (show wc.heap[ub]?=some (.cells #[O u.kind,O u.num,O u.rights,J u.bh,J u.guard,O u.aC,O u.root,J u.va] 84 (0,0)) from H4.j.at List.mem_cons_self);clear d0 d1 d2 d3 d4 d5 d7 H4 W;by_cases r0:0<u.root
    ·have HE:Hid (Kx=(K,16)):=by
      show Kx=(K,16)
      rw[sj.j,if_pos (List.any_eq_true.2 ⟨(l,m),qV.j,by rw[<-HU.j];exact decide_eq_true r0⟩)]
     go_wp2_with fail
     all_goals
      go_ret;exact⟨K,16,rfl,zx.j.fin.1,zx.j.fin.2,HE.j.symm⟩
    have HR:Hid (¬0<(aI K.bs K.es (l,m)).1.root):=by rw[<-HU.j];exact r0
    generalize u.root=ur at d6 r0
    go_wp2
    go_roundw
    case rel=>exact⟨j+1,by go_num,Z,(λa ha=>by
     rw[HT.j,List.mem_append,List.mem_singleton] at ha;rcases ha with ha|rfl
     ·exact HQ.j a ha
     exact HR.j),zx⟩
    case measure=>exact Zm
  obtain rfl:j=s:=Z;have h1:¬(j:Int)<(j:Int):=Z
  have HE:Hid (Kx=(KT,et)):=by
   show Kx=(KT,et)
   rw[sj.j,if_neg (by
    rw[List.any_eq_true];rintro⟨a,ha,h9⟩;rw[vg.j,List.take_length] at HQ
    exact HQ.j a ha (of_decide_eq_true h9))]
  have CN:=Y (lT.j _ _ HI.j.drew);have i:=Y (az.j [] _ _ HI.j.drew);have N:=i;clear al HQ;go_upto_region 8 with fail
  go_region_held3 (λwv=>Zc wv kb 0 (M mb)/\Zc wv ob 1 (O o2)) (with_reducible (first|exact i.j|exact N.j)) (first|(go_at_call 223;refine CN.j.m ?_;rintro e w5 ⟨rfl,H6⟩;have N:=Y (az.j [] _ _ H6.j)));go_wp2_with fail
  all_goals
   go_ret;exact⟨KT,et,rfl,H6.j.fin.1,H6.j.fin.2,HE.j.symm⟩
theorem aj.eight(h:aj U w kb mb sb pb qb bb tb F K wv){c:Cp}(hm:(b,.cells (bj c).toArray T (0,0))∈F):wv.cell? (E b 0)=some (O c.kind)/\wv.cell? (E b 1)=some (O c.num)/\wv.cell? (E b 2)=some (O c.rights)/\wv.cell? (E b 3)=some (J c.bh)/\wv.cell? (E b 4)=some (J c.guard)/\wv.cell? (E b 5)=some (O c.aC)/\wv.cell? (E b 6)=some (O c.root)/\wv.cell? (E b 7)=some (J c.va):=
 ⟨(cell_of_row _ _ 0 _ _ (0,0) (h.at hm)).trans rfl,(cell_of_row _ _ 1 _ _ (0,0) (h.at hm)).trans rfl,(cell_of_row _ _ 2 _ _ (0,0) (h.at hm)).trans rfl,(cell_of_row _ _ 3 _ _ (0,0) (h.at hm)).trans rfl,(cell_of_row _ _ 4 _ _ (0,0) (h.at hm)).trans rfl,(cell_of_row _ _ 5 _ _ (0,0) (h.at hm)).trans rfl,(cell_of_row _ _ 6 _ _ (0,0) (h.at hm)).trans rfl,(cell_of_row _ _ 7 _ _ (0,0) (h.at hm)).trans rfl⟩
theorem aj.afd{c:Cp}(h:aj U w kb mb sb pb qb bb tb ((cb,.cells (bj c).toArray 84 (0,0))::F) K wv)(r v)(a:¬U cb)(b:∀p∈F,p.1≠cb):aj U w kb mb sb pb qb bb tb ((cb,.cells (bj {c with root:=r,va:=v}).toArray 84 (0,0))::F) K ((wv.setCell (E cb 6) (O r)).setCell (E cb 7) (J v)):=by
 exact h.rh (((H.refl (λk=>k=cb) wv).setCell (p:=E cb 6) (Or.inl rfl) _).setCell (p:=E cb 7) (Or.inl rfl) _) (heap_setCell_same _ cb 7 _ _ (J v) (heap_setCell_same wv cb 6 _ _ (O r) (h.at List.mem_cons_self))) a b
theorem afy{s:Sl}{c c2:Cp}(hg:aI bs es s=(c,0))(h1:c2.kind=c.kind)(b:c2.num=c.num):wM bs es s c2=0:=by
 unfold aI at hg;unfold wM;cases hf:gY bs es s with
 |error e=>rw[hf] at hg;exact absurd hf (by injection hg with _ a;subst a;exact aaH bs es s)
 |ok i=>
  rw[hf] at hg;injection hg with a _
  dsimp only;rw[if_pos (by rw[a];unfold uc;simp[h1,b])]
theorem ajE(h:au U w kb mb sb pb qb bb tb K)(c)(y:0<=c.rights/\c.rights<=7)(root)(va:Nat)(z:va<4294967296)(rights)(A:af rights):
  Zk 136 #[M kb,bz c,O root,J (va:Int),O rights] w λe w'=>∃K2 ev,Zr e (O ev)/\au U w' kb mb sb pb qb bb tb K2/\Zn U w w'/\(K2,ev)=(if rights<0\/7<rights\/qh rights c.rights=false then (K,13) else ({K with f:=(j8 K.f K.n root va c.num rights).1},((j8 K.f K.n root va c.num rights).2:Int))):=by
 obtain⟨d,l⟩:=Ze ((if rights<0\/7<rights\/qh rights c.rights=false then (K,13) else ({K with f:=(j8 K.f K.n root va c.num rights).1},((j8 K.f K.n root va c.num rights).2:Int))):Kn×Int);rw[<-l];have m:=Y (λw=>aaq c y rights A w);obtain⟨B,a⟩:=Ze (Ch c rights);rw[<-a] at m;obtain⟨g,o⟩:=Ze ({K with f:=(j8 K.f K.n root va c.num rights).1});obtain⟨i,het⟩:=Ze (((j8 K.f K.n root va c.num rights).2:Nat):Int);have lT:Hid (∀F wv,aj U w kb mb sb pb qb bb tb F K wv->Zk 224 #[M mb,O root,J (va:Int),O c.num,O rights] wv λe w'=>Zr e (O i)/\Hid (aj U w kb mb sb pb qb bb tb F g w')):=λF wv h=>by rw[o,het];exact h.call (λV h=>h.map root va z c.num rights)
 have b:Hid ((B=false->d=(K,13))/\(B=true->d=(g,i))):=by
  rw[o,het,l];unfold Ch at a;constructor
  ·intro p;rw[p] at a;rw[if_pos (of_decide_eq_true (by rw[<-Bool.not_not (decide _),<-a];rfl))]
  intro p;rw[p] at a;rw[if_neg (of_decide_eq_false (by rw[<-Bool.not_not (decide _),<-a];rfl))]
 obtain⟨k,n,ri,bd,gu,q,ro,r⟩:=c;dsimp only[bz] at*;obtain⟨w1,s⟩:=Ze (w.alloc (.cells #[O k,O n,O ri,J bd,J gu,O q,O ro,J r] 84));obtain⟨ob,t⟩:=Ze (w.heap.size);obtain⟨F,u⟩:∃F:List (Nat×Obj),F=[(ob,.cells (bj ⟨k,n,ri,bd,gu,q,ro,r⟩).toArray 84 (0,0))]:=⟨_,rfl⟩
 have H1:Hid (aj U w kb mb sb pb qb bb tb F K w1):=by rw[s,u,t];exact(aj.start h).alloc _
 have C:Hid ((ob,.cells (bj ⟨k,n,ri,bd,gu,q,ro,r⟩).toArray 84 (0,0))∈F):=by rw[u];exact List.mem_cons_self
 have D:Hid (∀G wv,aj U w kb mb sb pb qb bb tb F G wv->Zc wv kb 0 (M mb)/\Zc wv ob 1 (O n)):=λG wv h=>⟨h.c.1,(h.eight C.j).2.1⟩
 obtain⟨N,P,Q,R,S,T,W,X⟩:=H1.j.eight C.j;dsimp only at N P Q R S T W X;generalize (va:Int)=vi at*;clear h y z A u o het a l;go_enter func136,ntmps136;go_upto_region 1 with fail
 rw[<-s,<-t];clear s t;go_wp2_with fail;refine(m.j _).m ?_;rintro e w2 ⟨rfl,ho⟩;have j:=Y (H1.j.quiet ho);clear ho N P Q R S T W X m H1
 cases B with
 |false=>
  have v:=Y (by first|exact b.j.1 rfl|exact b.j.1 trivial|exact b.j:d=(K,13));go_wp2_with fail
  all_goals
   go_ret
   exact⟨K,13,rfl,j.j.fin.1,j.j.fin.2,v.j.symm⟩
 |true=>
  have v:=Y (by first|exact b.j.2 rfl|exact b.j.2 trivial|exact b.j:d=(g,i));have CN:=Y (lT.j _ _ j.j.drew);have ah:=Y (D.j _ _ j.j.drew);have aK:=ah;go_upto_region 3 with fail
  go_region_held3 (λwv=>Zc wv kb 0 (M mb)/\Zc wv ob 1 (O n)) (with_reducible (first|exact ah.j|exact aK.j)) (first|(go_at_call 224;refine CN.j.m ?_;rintro e w5 ⟨rfl,x⟩;have aK:=Y (D.j _ _ x.j)));go_wp2_with fail
  all_goals
   go_ret;exact⟨g,i,rfl,x.j.fin.1,x.j.fin.2,v.j.symm⟩
theorem aj.abe(h:aj U w kb mb sb pb qb bb tb F K wv){f:FuncId}(d:∀V,au V wv kb mb sb pb qb bb tb K->Zk f args wv λe w'=>∃K2 ev,Zr e (O ev)/\au V w' kb mb sb pb qb bb tb K2/\Zn V wv w'/\P K2 ev):
  Zk f args wv λe w'=>∃K2 ev,Zr e (O ev)/\Hid (aj U w kb mb sb pb qb bb tb F K2 w')/\P K2 ev:=by
 have⟨⟨V,h1,b,g⟩,i,j⟩:=h;refine(d V g).m ?_;rintro e w' ⟨K2,ev,rfl,l,c,a⟩;exact⟨K2,ev,rfl,⟨⟨V,h1,b,l⟩,λp hp=>H.keep c (i p hp) (λh=>h (b p hp)),j.trans (c.mono (λk _ a m=>a (h1 k m)))⟩,a⟩
theorem XM{s:Sl}{c:Cp}{Kq:Kn}(h:(Kq,ev)=({K with f:=(ui K s c root va rights).1},(ui K s c root va rights).2)):(ev≠0->nG K s c root va rights=(Kq,ev))/\(ev=0->nG K s c root va rights=({Kq with es:=gO Kq.bs Kq.es s {c with root:=root+1,va:=(DI c va:Int)}},0)):=by
 injection h with h1 a
 unfold nG;constructor
 ·intro b;rw[if_neg (a▸b),h1,a]
 intro b;rw[if_pos (a▸b),h1]
theorem ajw{s:Sl}{c:Cp}(h:qu K.es s c=true):nG K s c root va rights=(K,16):=by
 have e:ui K s c root va rights=(K.f,16):=if_pos h;unfold nG;rw[e];rfl
theorem ajF(h:au U w kb mb sb pb qb bb tb K)(hw:bE K)(s1 s2)(hs:af s1)(c)(hg:aI K.bs K.es (s1,s2)=(c,0))(root)(hr:0<=root/\root<256)(va:Nat)(mO:va<4294967296)(rights)(xk:af rights):
  Zk 91 #[M kb,.agg #[O s1,O s2],bz c,O root,J (va:Int),O rights] w λe w'=>Zr e (O (nG K (s1,s2) c root va rights).2)/\au U w' kb mb sb pb qb bb tb (nG K (s1,s2) c root va rights).1/\Zn U w w':=by
 have x:(aI K.bs K.es (s1,s2)).1=c:=by rw[hg]
 have gW:(aI K.bs K.es (s1,s2)).2=0:=by rw[hg]
 have⟨o,Gf,fR,Cf⟩:=aay gW;rw[x] at Cf;have aR:=hw.rt o Gf;rw[Cf] at aR;have rN:=hw.c.gu o Gf;rw[Cf] at rN;have T8:Hid (0<c.root->nG K (s1,s2) c root va rights=(K,16)):=λh0=>ajw (by have:=ajx gW (by rw[x];exact h0);rw[x] at this;exact this);have lT:Hid (¬0<c.root->c.kind=3->qu K.es (s1,s2) c=(gE K.es (c.kind,c.num)).any λa=>decide (0<(aI K.bs K.es a).1.root)):=λh0 h3=>by
  have:=ajv hw.c hw.x gW (by rw[x];exact h0) (by rw[x];exact h3);rwa[x] at this
 have OI:Hid (¬0<c.root->c.kind≠3->qu K.es (s1,s2) c=false):=λh0 h3=>by
  have:=ajz hw.c hw.x gW (by rw[x];exact h0) (by rw[x];exact h3);rwa[x] at this
 have oZ:Hid (∀r v,wM K.bs K.es (s1,s2) {c with root:=r,va:=v}=0):=λr v=>afy hg rfl rfl;have aa:Hid (IntKind.i64.wrap (root+1)=root+1):=by show IntKind.i64.wrap (root+1)=root+1;rw[IntKind.wrap_i64];omega
 obtain⟨KE,aJ⟩:=Ze (nG K (s1,s2) c root va rights);rw[<-aJ] at T8|-;have iE:=Y aJ;have u:Hid (ot c/\af s1/\bE K/\va<4294967296/\af rights/\(0<=c.rights/\c.rights<=7)):=⟨rN,hs,hw,mO,xk,aR.1,aR.2.1⟩
 clear hg x gW Gf fR Cf aR rN aJ hw hr xk;obtain⟨C,T⟩:=Ze (c);have HC:=Y T;obtain⟨k,n,ri,bd,gu,gb,ro,cv⟩:=c;rw[<-T] at lT OI oZ u iE;have t:Hid (C.root=ro/\C.kind=k/\C.num=n):=by rw[T];exact⟨rfl,rfl,rfl⟩
 dsimp only[bz] at*;obtain⟨w1,G⟩:=Ze ((w.alloc (.cells #[O s1,O s2] 45)).alloc (.cells #[O k,O n,O ri,J bd,J gu,O gb,O ro,J cv] 84));obtain⟨y,N⟩:=Ze (w.heap.size);obtain⟨cb,P⟩:=Ze (w.heap.size+1);obtain⟨F,hF⟩:∃F:List (Nat×Obj),F=[(y,.cells #[O s1,O s2] 45 (0,0))]:=⟨_,rfl⟩
 have H1:Hid (aj U w kb mb sb pb qb bb tb ((cb,.cells (bj C).toArray 84 (0,0))::F) K w1):=by
  have:=((aj.start h).alloc (.cells #[O s1,O s2] 45 (0,0))).alloc (.cells (bj ⟨k,n,ri,bd,gu,gb,ro,cv⟩).toArray 84 (0,0));rw[show(w.alloc (.cells #[O s1,O s2] 45)).heap.size=w.heap.size+1 by simp] at this;rw[G,hF,N,P,T];exact this
 have HM:Hid ((y,.cells #[O s1,O s2] 45 (0,0))∈F/\(∀p∈F,p.1≠cb)/\¬U cb):=⟨by rw[hF];exact List.mem_cons_self,λp hp=>by rw[hF] at hp;rw[List.mem_singleton] at hp;rw[hp];show y≠cb;omega,λhu=>by have:=aN.ul h cb hu;omega⟩
 have z:Hid (∀c W wv,aj U w kb mb sb pb qb bb tb ((cb,.cells (bj c).toArray 84 (0,0))::F) W wv->Zc wv kb 1 (M sb)/\Zc wv y 0 (O s1)/\Zc wv y 1 (O s2)/\Zc wv cb 0 (O c.kind)/\Zc wv cb 1 (O c.num)/\Zc wv cb 2 (O c.rights)/\Zc wv cb 3 (J c.bh)/\Zc wv cb 4 (J c.guard)/\Zc wv cb 5 (O c.aC)/\Zc wv cb 6 (O c.root)/\Zc wv cb 7 (J c.va)):=λc W wv h=>⟨h.c.2.1,(h.two (List.mem_cons_of_mem _ HM.j.1)).1,(h.two (List.mem_cons_of_mem _ HM.j.1)).2,h.eight List.mem_cons_self⟩
 have dh:=Y (λW wv r v(h:aj U w kb mb sb pb qb bb tb ((cb,.cells (bj C).toArray 84 (0,0))::F) W wv)=>h.afd r v HM.j.2.2 HM.j.2.1)
 have AY:=Y (λW wv(h:aj U w kb mb sb pb qb bb tb ((cb,.cells (bj C).toArray 84 (0,0))::F) W wv)j=>fX (h.at List.mem_cons_self) j)
 have gG:=z.j _ _ _ H1.j;rw[T] at gG;obtain⟨_,_,_,q0,q1,q2,q3,q4,q5,q6,q7⟩:=gG;dsimp only at q0 q1 q2 q3 q4 q5 q6 q7;clear h hs hF T;by_cases r0:0<ro
 ·have g:=Y (T8.j r0);generalize (va:Int)=vi at*;go_enter func91,ntmps91;go_upto_region 1 with fail
  rw[<-G,<-P,<-N];clear G N P;go_wp2_with fail
  all_goals
   go_ret;exact⟨Zz g.j,by rw[g.j];exact H1.j.fin⟩
 clear T8;by_cases A:k=3
 ·have X:Hid (DI C va=va/4194304*4194304):=if_pos (by rw[t.j.2.1];exact A);have zr:=Y (λw=>aeJ va u.j.2.2.2.1 w);have D:=Y (H1.j.abe (λV h=>ajC h u.j.2.2.1 k n root (va/4194304*4194304) (by have:=u.j.2.2.2.1;omega)))
  have Q:Hid (∀Kq ev,(Kq,ev)=(if ((gE K.es (k,n)).any λa=>decide (0<(aI K.bs K.es a).1.root))=true then (K,16) else ({K with f:=(ly K.f K.n root (va/4194304*4194304) n).1},((ly K.f K.n root (va/4194304*4194304) n).2:Int)))->((ev≠0->KE=(Kq,ev))/\(ev=0->KE=({Kq with es:=gO Kq.bs Kq.es (s1,s2) {C with root:=root+1,va:=((va/4194304*4194304:Nat):Int)}},0)))/\Kq.bs=K.bs/\Kq.es=K.es):=λKq ev b=>by
   have ht:=lT.j (by rw[t.j.1];exact r0) (by rw[t.j.2.1];exact A);rw[t.j.2.1,t.j.2.2] at ht
   have uD:=XM (K:=K) (s:=(s1,s2)) (c:=C) (root:=root) (va:=va) (rights:=rights) (Kq:=Kq) (ev:=ev) (by
    unfold ui;rw[ht,X.j,t.j.2.1,t.j.2.2,b];by_cases i:((gE K.es (k,n)).any λa=>decide (0<(aI K.bs K.es a).1.root))=true
    ·rw[if_pos i,if_pos i]
    rw[if_neg i,if_neg i,if_pos A])
   rw[<-iE.j,X.j] at uD;refine⟨uD,?_⟩;by_cases i:((gE K.es (k,n)).any λa=>decide (0<(aI K.bs K.es a).1.root))=true
   ·rw[if_pos i] at b;injection b with b _
    rw[b];exact⟨rfl,rfl⟩
   rw[if_neg i] at b;injection b with b _
   rw[b];exact⟨rfl,rfl⟩
  clear lT OI X;obtain⟨l,Ai⟩:=Ze (((va/4194304*4194304:Nat):Int):Int);rw[<-Ai] at zr D Q;generalize (va:Int)=vi at*;subst A;clear Ai;go_enter func91,ntmps91;go_upto_region 1 with fail
  rw[<-G,<-P,<-N];clear G N P;go_wp2_with fail;refine(zr.j _).e1 ?_;go_wp2_with fail;refine D.j.m ?_;rintro e w3 ⟨Kq,ev,rfl,q,b⟩;have m:=Y (Q.j Kq ev b);clear b q0 q1 q2 q3 q4 q5 q6 q7 zr D Q H1;by_cases o:ev=0
  ·have g:=Y (m.j.1.2 o);have B:=Y (dh.j _ _ (root+1) l q.j);have Sy:=AY.j _ _ q.j 6;have Sx:=AY.j _ _ q.j 7;have BP:=aa.j;obtain⟨w5,R⟩:=Ze ((w3.setCell (E cb 6) (O (root+1))).setCell (E cb 7) (J l));have py:=(z.j _ _ _ q.j).2.2.2.2.2.2.2.2.2.1;have nP:=(z.j _ _ _ q.j).2.2.2.2.2.2.2.2.2.2;rw[<-R] at B
   have S:Hid (Zk 137 #[M sb,.agg #[O s1,O s2],bz {C with root:=root+1,va:=l}] w5.drew λe w'=>Zr e (O 0)/\Hid (aj U w kb mb sb pb qb bb tb ((cb,.cells (bj {C with root:=root+1,va:=l}).toArray 84 (0,0))::F) {Kq with es:=gO Kq.bs Kq.es (s1,s2) {C with root:=root+1,va:=l}} w')):=by
    have:=B.j.drew.call (λV h=>h.set (s1,s2) u.j.2.1 {C with root:=root+1,va:=l} u.j.1);rw[m.j.2.1,m.j.2.2,oZ.j] at this;rw[m.j.2.1,m.j.2.2];exact this
   obtain⟨d,JK⟩:=Ze ({C with root:=root+1,va:=l}:Cp);rw[<-JK] at S B g;have ah:=Y (z.j _ _ _ B.j.drew);have aK:=ah;clear JK m;subst o;dsimp only[bz] at S;go_upto_region 11 with fail
   rw[<-R];clear R Sy Sx BP py nP;go_region_held3 (λwv=>Zc wv kb 1 (M sb)/\Zc wv y 0 (O s1)/\Zc wv y 1 (O s2)/\Zc wv cb 0 (O d.kind)/\Zc wv cb 1 (O d.num)/\Zc wv cb 2 (O d.rights)/\Zc wv cb 3 (J d.bh)/\Zc wv cb 4 (J d.guard)/\Zc wv cb 5 (O d.aC)/\Zc wv cb 6 (O d.root)/\Zc wv cb 7 (J d.va)) (with_reducible (first|exact ah.j|exact aK.j)) (first|(go_at_call 137;refine S.j.m ?_;rintro e w6 ⟨rfl,H6⟩;have aK:=Y (z.j _ _ _ H6.j)));go_wp2_with fail
   all_goals
    go_ret;exact⟨Zz g.j,by rw[g.j];exact H6.j.fin⟩
  have e1:(ev !=0)=true:=by simpa using o
  have g:=Y (m.j.1.1 o);clear o;go_wp2_with fail
  all_goals
   go_ret;exact⟨Zz g.j,by rw[g.j];exact q.j.fin⟩
 have n3:(k==3)=false:=by simpa using A
 have X:Hid (DI C va=va):=if_neg (by rw[t.j.2.1];exact A);have D:=Y (H1.j.abe (λV h=>ajE h ⟨k,n,ri,bd,gu,gb,ro,cv⟩ (by have:=u.j.2.2.2.2.2;rw[HC.j] at this;exact this) root va u.j.2.2.2.1 rights u.j.2.2.2.2.1))
 have Q:Hid (∀Kq ev,(Kq,ev)=(if rights<0\/7<rights\/qh rights ri=false then (K,13) else ({K with f:=(j8 K.f K.n root va n rights).1},((j8 K.f K.n root va n rights).2:Int)))->((ev≠0->KE=(Kq,ev))/\(ev=0->KE=({Kq with es:=gO Kq.bs Kq.es (s1,s2) {C with root:=root+1,va:=(va:Int)}},0)))/\Kq.bs=K.bs/\Kq.es=K.es):=λKq ev b=>by
  have ht:=OI.j (by rw[t.j.1];exact r0) (by rw[t.j.2.1];exact A)
  have uD:=XM (K:=K) (s:=(s1,s2)) (c:=C) (root:=root) (va:=va) (rights:=rights) (Kq:=Kq) (ev:=ev) (by
   unfold ui;rw[ht,b,if_neg (show¬(false=true) from I),t.j.2.1,if_neg A,t.j.2.2,HC.j];dsimp only;by_cases i:rights<0\/7<rights\/qh rights ri=false
   ·rw[if_pos i,if_pos i]
   rw[if_neg i,if_neg i])
  rw[<-iE.j,X.j] at uD;refine⟨uD,?_⟩;by_cases i:rights<0\/7<rights\/qh rights ri=false
  ·rw[if_pos i] at b;injection b with b _
   rw[b];exact⟨rfl,rfl⟩
  rw[if_neg i] at b;injection b with b _
  rw[b];exact⟨rfl,rfl⟩
 clear lT OI X A;obtain⟨l,Ai⟩:=Ze ((va:Int):Int);rw[<-Ai] at Q;dsimp only[bz] at D;rw[<-Ai] at D|-;clear Ai;go_enter func91,ntmps91;go_upto_region 1 with fail
 rw[<-G,<-P,<-N];clear G N P;go_wp2_with fail;refine D.j.m ?_;rintro e w3 ⟨Kq,ev,rfl,q,b⟩;have m:=Y (Q.j Kq ev b);clear b q0 q1 q2 q3 q4 q5 q6 q7 D Q H1;by_cases o:ev=0
 ·have g:=Y (m.j.1.2 o);have B:=Y (dh.j _ _ (root+1) l q.j);have Sy:=AY.j _ _ q.j 6;have Sx:=AY.j _ _ q.j 7;have BP:=aa.j;obtain⟨w5,R⟩:=Ze ((w3.setCell (E cb 6) (O (root+1))).setCell (E cb 7) (J l));have py:=(z.j _ _ _ q.j).2.2.2.2.2.2.2.2.2.1;have nP:=(z.j _ _ _ q.j).2.2.2.2.2.2.2.2.2.2;rw[<-R] at B
  have S:Hid (Zk 137 #[M sb,.agg #[O s1,O s2],bz {C with root:=root+1,va:=l}] w5.drew λe w'=>Zr e (O 0)/\Hid (aj U w kb mb sb pb qb bb tb ((cb,.cells (bj {C with root:=root+1,va:=l}).toArray 84 (0,0))::F) {Kq with es:=gO Kq.bs Kq.es (s1,s2) {C with root:=root+1,va:=l}} w')):=by
   have:=B.j.drew.call (λV h=>h.set (s1,s2) u.j.2.1 {C with root:=root+1,va:=l} u.j.1);rw[m.j.2.1,m.j.2.2,oZ.j] at this;rw[m.j.2.1,m.j.2.2];exact this
  obtain⟨d,JK⟩:=Ze ({C with root:=root+1,va:=l}:Cp);rw[<-JK] at S B g;have ah:=Y (z.j _ _ _ B.j.drew);have aK:=ah;clear JK m;subst o;dsimp only[bz] at S;go_upto_region 11 with fail
  rw[<-R];clear R Sy Sx BP py nP;go_region_held3 (λwv=>Zc wv kb 1 (M sb)/\Zc wv y 0 (O s1)/\Zc wv y 1 (O s2)/\Zc wv cb 0 (O d.kind)/\Zc wv cb 1 (O d.num)/\Zc wv cb 2 (O d.rights)/\Zc wv cb 3 (J d.bh)/\Zc wv cb 4 (J d.guard)/\Zc wv cb 5 (O d.aC)/\Zc wv cb 6 (O d.root)/\Zc wv cb 7 (J d.va)) (with_reducible (first|exact ah.j|exact aK.j)) (first|(go_at_call 137;refine S.j.m ?_;rintro e w6 ⟨rfl,H6⟩;have aK:=Y (z.j _ _ _ H6.j)));go_wp2_with fail
  all_goals
   go_ret;exact⟨Zz g.j,by rw[g.j];exact H6.j.fin⟩
 have e1:(ev !=0)=true:=by simpa using o
 have g:=Y (m.j.1.1 o);clear o;go_wp2_with fail
 all_goals
  go_ret;exact⟨Zz g.j,by rw[g.j];exact q.j.fin⟩
theorem apN(h:au U w kb mb sb pb qb bb tb K)(hw:bE K)(s1 s2 root)(va:Nat)(rights)(hs:af s1)(Y8:af root)(mO:va<4294967296)(xk:af rights):
  Zk 46 #[M kb,.agg #[O s1,O s2,O root,J (va:Int),O rights]] w λe w'=>Zr e (O (dj K ⟨(s1,s2),root,va,rights⟩).2)/\au U w' kb mb sb pb qb bb tb (dj K ⟨(s1,s2),root,va,rights⟩).1/\Zn U w w':=by
 have⟨b,D⟩:=Ze (dj K ⟨(s1,s2),root,va,rights⟩);rw[<-D];have fh:=Y (λF wv(h:aj U w kb mb sb pb qb bb tb F K wv)=>h.read (λV h=>h.get (s1,s2) hs));have X:Hid (∀F wv,aj U w kb mb sb pb qb bb tb F K wv->Zk 86 #[M kb,.agg #[O 4,O root]] wv λe w'=>Zr e (.bool (dJ K.os K.rs (4,root)))/\Hid (aj U w kb mb sb pb qb bb tb F K w')):=λF wv h=>h.read (λV h=>MK h _ _ Y8);have⟨u,hu⟩:=Ze ((aI K.bs K.es (s1,s2)).1);have⟨f,m⟩:=Ze ((aI K.bs K.es (s1,s2)).2);have⟨B,hB⟩:=Ze (dJ K.os K.rs (4,root));have g:=Y (λ(h1:f=0)(x:B=true)F wv(h:aj U w kb mb sb pb qb bb tb F K wv)=>h.call (λV h=>ajF h hw s1 s2 hs u (Prod.ext hu.symm (by rw[<-m];exact h1)) root (agk hw.p (by rw[<-hB];exact x)) va mO rights xk));have aa:Hid (f≠0->b=(K,f)):=λy=>by
  rw[D,m];unfold dj;rw[if_neg (by rw[<-m];exact y)]
 have OV:Hid (f=0->u.kind≠2->u.kind≠3->b=(K,12)):=λy h1 x=>by
  rw[D];unfold dj;rw[if_pos (by rw[<-m];exact y),if_pos (by rw[<-hu];exact⟨h1,x⟩)]
 have z:Hid (f=0->(u.kind=2\/u.kind=3)->B=false->b=(K,6)):=λy h1 x=>by
  rw[D];unfold dj;rw[if_pos (by rw[<-m];exact y),if_neg (by rw[<-hu];rcases h1 with h|h<;>rw[h]<;>decide),if_pos (by rw[<-hB];exact x)]
 have n:Hid (f=0->(u.kind=2\/u.kind=3)->B=true->b=nG K (s1,s2) u root va rights):=λy h1 x=>by
  rw[D];unfold dj;rw[if_pos (by rw[<-m];exact y),if_neg (by rw[<-hu];rcases h1 with h|h<;>rw[h]<;>decide),if_neg (by show¬dJ K.os K.rs (4,root)=false;rw[<-hB,x];decide),<-hu]
 rw[<-hu,<-m] at fh;rw[<-hB] at X;have⟨i,ab⟩:=Ze (nG K (s1,s2) u root va rights);rw[<-ab] at g n;have⟨A,YQ⟩:=Ze ((va:Int):Int);rw[<-YQ] at g|-;obtain⟨w2,aL⟩:=Ze (w.alloc (.cells #[O s1,O s2,O root,J A,O rights] 79));obtain⟨ob,aP⟩:=Ze (w.heap.size);obtain⟨F,hF⟩:∃F:List (Nat×Obj),F=[(ob,.cells #[O s1,O s2,O root,J A,O rights] 79 (0,0))]:=⟨_,rfl⟩
 have H2:Hid (aj U w kb mb sb pb qb bb tb F K w2):=by rw[aL,hF,aP];exact(aj.start h).alloc _
 have HM:Hid ((ob,.cells #[O s1,O s2,O root,J A,O rights] 79 (0,0))∈F):=by rw[hF];exact List.mem_cons_self
 have az:Hid (∀G K' wv,aj U w kb mb sb pb qb bb tb (G++F) K' wv->Zc wv ob 0 (O s1)/\Zc wv ob 1 (O s2)/\Zc wv ob 2 (O root)/\Zc wv ob 3 (J A)/\Zc wv ob 4 (O rights)):=λG K' wv h=>⟨(cell_of_row _ _ 0 _ _ (0,0) (h.at (List.mem_append_right _ HM.j))).trans rfl,(cell_of_row _ _ 1 _ _ (0,0) (h.at (List.mem_append_right _ HM.j))).trans rfl,(cell_of_row _ _ 2 _ _ (0,0) (h.at (List.mem_append_right _ HM.j))).trans rfl,(cell_of_row _ _ 3 _ _ (0,0) (h.at (List.mem_append_right _ HM.j))).trans rfl,(cell_of_row _ _ 4 _ _ (0,0) (h.at (List.mem_append_right _ HM.j))).trans rfl⟩;have o:Hid (∀G wv,aj U w kb mb sb pb qb bb tb (G++F) K wv->Zc wv kb 1 (M sb)/\Zc wv ob 0 (O s1)/\Zc wv ob 1 (O s2)):=λG wv h=>⟨h.c.2.1,(az.j G K wv h).1,(az.j G K wv h).2.1⟩;clear h hw hs Y8 mO xk D hu m hB ab YQ hF;go_enter func46,ntmps46;go_upto_region 1 with fail
 rw[<-aL,<-aP];clear aL aP;go_upto_region 1 with fail
 go_cut [5,6] from 7 to 16 (λc7 c8 wx=>∃ub,c7=M ub/\c8=O f/\Hid (aj U w kb mb sb pb qb bb tb ((ub,.cells (bj u).toArray 84 (0,0))::F) K wx)/\Hid (¬U ub/\∀p∈F,p.1≠ub))
 case first=>
  have fg:=Y H2.j.drew;have N:=Y (o.j [] _ fg.j);obtain⟨wA,dy⟩:=Ze ((w2.alloc (.cells #[O 0,O 0,O 0,J 0,J 0,O 0,O 0,J 0] 84)).drew);obtain⟨ub,q⟩:=Ze (w2.heap.size);have sq:Hid (aj U w kb mb sb pb qb bb tb ((ub,.cells jd.toArray 84 (0,0))::F) K wA):=by rw[dy,q];exact(H2.j.alloc _).drew
  have fI:=Y (o.j [_] _ sq.j);have r:Hid (¬U ub/\∀p∈F,p.1≠ub):=⟨λhu=>by have:=H2.j.low ub hu;omega,λp hp he=>by have:=aB (H2.j.f p hp);omega⟩
  refine lY (S:=(λwv=>wv.cell? (E kb 1)=some (M sb)/\wv.cell? (E ob 0)=some (O s1)/\wv.cell? (E ob 1)=some (O s2))) Zx ?_;simp only[List.size_toArray,List.length_cons,List.length_nil,Nat.zero_add,Nat.reduceAdd];refine Zt 0 N.j ?_;refine Zt 1 N.j ?_;refine Zt 2 N.j ?_;refine Zt 3 N.j ?_;refine Zt 4 N.j ?_;refine Zt 5 N.j ?_;refine wpAnyH_ready (rs:=[6,10]) Zx (by simp) ?_;refine(AllReadyH.cons Zg (λK d=>?_) (AllReadyH.cons Zg (λK d=>?_) AllReadyH.nil))
  ·as_aux_lemma=>
    refine dc rfl 55 #[Operand.tmp 11,Operand.tmp 13] #[92,45] rfl #[M sb,.agg #[O s1,O s2]] (by first|rfl|simp[Act.eval,go_sem]) (by simp[go_sem]) (fh.j _ _ fg.j) ?_;rintro e w3 ⟨rfl,s⟩;have j:=Y (o.j [] _ s.j);clear q dy sq fI r;obtain⟨ub,q⟩:=Ze (w3.heap.size);obtain⟨wB,jR⟩:=Ze (w3.alloc (.cells #[O 0,O 0,O 0,J 0,J 0,O 0,O 0,J 0] 84));have mB:=Y (s.j.alloc (.cells #[O 0,O 0,O 0,J 0,J 0,O 0,O 0,J 0] 84 (0,0)));rw[<-jR,<-q] at mB;have EN:=Y (o.j [_] _ mB.j);have r:Hid (¬U ub/\∀p∈F,p.1≠ub):=⟨λhu=>by have:=s.j.low ub hu;omega,λp hp he=>by have:=aB (s.j.f p hp);omega⟩
    have jc:=Y (aj.l9 mB.j u r.j.1 r.j.2);have i7:=Y (o.j [_] _ jc.j);have pV:=Y (mB.j.at List.mem_cons_self);refine⟨_,rfl,?_⟩;refine Zb d j.j ?_;refine Zt 7 j.j ?_;refine Zt 8 j.j ?_;refine Zt 9 j.j ?_;refine Zy 10 (λK d=>?_);go_simp;rw[<-jR,<-q];clear jR q;refine Zb d EN.j ?_;refine Zy 11 (λK d=>?_);refine nx (.tmp 5) (.tmp 15) rfl rfl (u:=u) (ub:=ub) (by simp[Act.eval]) (by simp[Act.eval,bz,bj]) pV.j ?_;refine Zb d i7.j ?_;refine Zt 12 i7.j ?_;refine wpAnyH_done Zx ?_ _
    go_wp2
    go_meet;exact⟨_,rfl,rfl,jc.j,r.j⟩
  as_aux_lemma=>
   go_simp;rw[<-dy,<-q];clear dy q;refine Zb d fI.j ?_;refine Zy 6 (λK d=>?_);refine dc rfl 55 #[Operand.tmp 11,Operand.tmp 13] #[92,45] rfl #[M sb,.agg #[O s1,O s2]] (by first|rfl|simp[Act.eval,go_sem]) (by simp[go_sem]) (fh.j _ _ sq.j) ?_;rintro e w3 ⟨rfl,s⟩;have j:=Y (o.j [_] _ s.j);have jc:=Y (aj.l9 s.j u r.j.1 r.j.2);have i7:=Y (o.j [_] _ jc.j);have pV:=Y (s.j.at List.mem_cons_self);refine⟨_,rfl,?_⟩;refine Zb d j.j ?_;refine Zt 7 j.j ?_;refine Zt 8 j.j ?_;refine Zt 9 j.j ?_;refine Zy 11 (λK d=>?_);refine nx (.tmp 5) (.tmp 15) rfl rfl (u:=u) (ub:=ub) (by simp[Act.eval]) (by simp[Act.eval,bz,bj]) pV.j ?_;refine Zb d i7.j ?_;refine Zt 12 i7.j ?_;refine wpAnyH_done Zx ?_ _
   go_wp2
   go_meet;exact⟨_,rfl,rfl,jc.j,r.j⟩
 case rest=>
  obtain⟨ub,rfl,rfl,t,Ll⟩:=hcut;clear H2 fh o;by_cases g0:f=0
  ·subst g0;replace OV:Hid (u.kind≠2->u.kind≠3->b=(K,12)):=by first|exact OV.j rfl|exact OV.j trivial
   replace z:Hid ((u.kind=2\/u.kind=3)->B=false->b=(K,6)):=by first|exact z.j rfl|exact z.j trivial
   replace n:Hid ((u.kind=2\/u.kind=3)->B=true->b=i):=by first|exact n.j rfl|exact n.j trivial
   replace g:Hid (B=true->∀F wv,aj U w kb mb sb pb qb bb tb F K wv->Zk 91 #[M kb,.agg #[O s1,O s2],bz u,O root,J A,O rights] wv λe w'=>Zr e (O i.2)/\Hid (aj U w kb mb sb pb qb bb tb F i.1 w')):=by first|exact g.j rfl|exact g.j trivial
   clear aa;obtain⟨d0,d1,d2,d3,d4,d5,d6,d7⟩:=t.j.eight (c:=u) List.mem_cons_self;obtain⟨P,Q,R,T,W⟩:=az.j [_] _ _ t.j;by_cases v:u.kind=2
   ·have k:Hid (u.kind=2\/u.kind=3):=Or.inl v;have Lz:Hid (bz u=.agg #[O 2,O u.num,O u.rights,J u.bh,J u.guard,O u.aC,O u.root,J u.va]):=by unfold bz;rw[v];exact rfl
    rw[v] at d0;clear v;go_wp2_with fail;refine(X.j _ _ t.j).m ?_;rintro e w4 ⟨rfl,l⟩;clear d0 d1 d2 d3 d4 d5 d6 d7 P Q R T W X t;obtain⟨d0,d1,d2,d3,d4,d5,d6,d7⟩:=l.j.eight (c:=u) List.mem_cons_self;obtain⟨P,Q,R,T,W⟩:=az.j [_] _ _ l.j
    cases B with
    |false=>
     have a:=Y (by first|exact z.j k.j rfl|exact z.j k.j trivial:b=(K,6));go_wp2_with fail
     all_goals
      go_ret
      exact⟨Zz a.j,by rw[a.j];exact l.j.fin⟩
    |true=>
     have a:=Y (by first|exact n.j k.j rfl|exact n.j k.j trivial:b=i);have CV:=Y ((by first|exact g.j rfl|exact g.j trivial:∀F wv,aj U w kb mb sb pb qb bb tb F K wv->Zk 91 #[M kb,.agg #[O s1,O s2],bz u,O root,J A,O rights] wv λe w'=>Zr e (O i.2)/\Hid (aj U w kb mb sb pb qb bb tb F i.1 w')) _ _ l.j);rw[Lz.j] at CV;have rM:u.kind=2:=by have:=Lz.j;unfold bz at this;injection this with this;injection this with this;injection this with this _;injection this
     rw[rM] at d0;clear rM;go_wp2_with fail;refine CV.j.m ?_;rintro e w5 ⟨rfl,H6⟩;clear d0 d1 d2 d3 d4 d5 d6 d7 P Q R T W;go_wp2_with fail
     all_goals
      go_ret;exact⟨Zz a.j,by rw[a.j];exact H6.j.fin⟩
   by_cases C:u.kind=3
   ·have k:Hid (u.kind=2\/u.kind=3):=Or.inr C;have Lz:Hid (bz u=.agg #[O 3,O u.num,O u.rights,J u.bh,J u.guard,O u.aC,O u.root,J u.va]):=by unfold bz;rw[C];exact rfl
    rw[C] at d0;clear v C;go_wp2_with fail;refine(X.j _ _ t.j).m ?_;rintro e w4 ⟨rfl,l⟩;clear d0 d1 d2 d3 d4 d5 d6 d7 P Q R T W X t;obtain⟨d0,d1,d2,d3,d4,d5,d6,d7⟩:=l.j.eight (c:=u) List.mem_cons_self;obtain⟨P,Q,R,T,W⟩:=az.j [_] _ _ l.j
    cases B with
    |false=>
     have a:=Y (by first|exact z.j k.j rfl|exact z.j k.j trivial:b=(K,6));go_wp2_with fail
     all_goals
      go_ret
      exact⟨Zz a.j,by rw[a.j];exact l.j.fin⟩
    |true=>
     have a:=Y (by first|exact n.j k.j rfl|exact n.j k.j trivial:b=i);have CV:=Y ((by first|exact g.j rfl|exact g.j trivial:∀F wv,aj U w kb mb sb pb qb bb tb F K wv->Zk 91 #[M kb,.agg #[O s1,O s2],bz u,O root,J A,O rights] wv λe w'=>Zr e (O i.2)/\Hid (aj U w kb mb sb pb qb bb tb F i.1 w')) _ _ l.j);rw[Lz.j] at CV;have rM:u.kind=3:=by have:=Lz.j;unfold bz at this;injection this with this;injection this with this;injection this with this _;injection this
     rw[rM] at d0;clear rM;go_wp2_with fail;refine CV.j.m ?_;rintro e w5 ⟨rfl,H6⟩;clear d0 d1 d2 d3 d4 d5 d6 d7 P Q R T W;go_wp2_with fail
     all_goals
      go_ret;exact⟨Zz a.j,by rw[a.j];exact H6.j.fin⟩
   have n2:(u.kind !=2)=true:=by simpa using v
   have n3:(u.kind !=3)=true:=by simpa using C
   have a:=Y (OV.j v C);generalize u.kind=uk at d0 n2 n3;clear v C;go_wp2_with fail
   all_goals
    go_ret;exact⟨Zz a.j,by rw[a.j];exact t.j.fin⟩
  have g1:(f !=0)=true:=by simpa using g0
  have a:=Y (aa.j g0);clear g0;go_wp2_with fail
  all_goals
   go_ret;exact⟨Zz a.j,by rw[a.j];exact t.j.fin⟩
section
variable {T:List Kt}{L:List Ln}{c:Nat}
theorem mm.dF:jX (mm kb mb sb pb qb bb tb D ks G T L ci co c):=by
 rintro U V S w w2 h e f g;have hb:∀b,b<w.heap.size->¬U b->¬V b:=λb h1 i j=>by
  rcases g b j with d|d
  ·exact i d
  omega
 have hs:=e.size;have hk:=aB h.k;have hm:=h.m.own.lt;have ht:∀t∈T,G t.num<w.heap.size:=λt ht=>aB (h.th t ht);refine⟨(e.block _ hk (λs=>h.uk (f _ hk s))).trans h.k,h.m.keep e (λs=>h.um (f _ hm s)),h.kt,λt a=>(e.block _ (ht t a) (λs=>h.ut t a (f _ (ht t a) s))).trans (h.th t a),h.gi,hb _ hk h.uk,hb _ hm h.um,λt a=>hb _ (ht t a) (h.ut t a),λk hk=>?_,h.nt⟩;rcases g k hk with d|d
 ·have:=h.low k d;omega
 exact d.2
abbrev kgL(kb mb sb pb qb bb tb:Nat)(D:DataW Value)(ks:List Int)(G:Int->Nat)(K:Kn):List ff:=[nk sb K.bs K.es,ki mb K.n K.f,oW pb (K.n:Int) K.os K.rs,jY qb K.ts K.t K.lf K.ss K.ck,re bb K.b,mm kb mb sb pb qb bb tb D ks G K.T K.L K.ci K.co K.c]
end
def aq(U:Z1)(w:Z0)(kb mb sb pb qb bb tb:Nat)(D:DataW Value)(ks:List Int)(G:Int->Nat)(K:Kn):Prop:=aN (kgL kb mb sb pb qb bb tb D ks G K) U w
section
variable {T:List Kt}{L:List Ln}{c:Nat}
theorem au.g(h:au U w kb mb sb pb qb bb tb K):∃D ks G,aq U w kb mb sb pb qb bb tb D ks G K:=by
 have⟨c,⟨D,ks,G,a⟩,_,_,b⟩:=aN.open h 5 rfl;exact⟨D,ks,G,(b (mm kb mb sb pb qb bb tb D ks G K.T K.L K.ci K.co K.c) w mm.dF a (H.refl _ _)).1⟩
theorem aq.x(h:aq U w kb mb sb pb qb bb tb D ks G K):au U w kb mb sb pb qb bb tb K:=by
 have⟨c,a,_,_,b⟩:=aN.open h 5 rfl;exact(b (qQ kb mb sb pb qb bb tb K.T K.L K.ci K.co K.c) w qQ.dF ⟨D,ks,G,a⟩ (H.refl _ _)).1
end
theorem aq.quiet(h:aq U w kb mb sb pb qb bb tb D ks G K)(a:Zq w w2):aq U w2 kb mb sb pb qb bb tb D ks G K:=aN.quiet h a
theorem aq.wide(h:aq U w kb mb sb pb qb bb tb D ks G K)(a:Zq w w2):aq (Nu U w.heap.size w2.heap.size) w2 kb mb sb pb qb bb tb D ks G K:=aN.wide h a
theorem aq.thin(h:aq V w kb mb sb pb qb bb tb D ks G K)(a:∀k,U k->V k):aq U w kb mb sb pb qb bb tb D ks G K:=aN.thin h a
section
variable {T:List Kt}{L:List Ln}{c:Nat}
theorem aq.own(h:aq U w kb mb sb pb qb bb tb D ks G K):∃a:Z1,mm kb mb sb pb qb bb tb D ks G K.T K.L K.ci K.co K.c a w:=by
 have⟨a,b,_⟩:=aN.at h 5 rfl;exact⟨a,b⟩
theorem mm.yE(h:mm kb mb sb pb qb bb tb D ks G T L ci co c U w)(hi:i<T.length)(hy:y.num=T[i].num)(b:H (λk=>k=G T[i].num) w w2)(hb:w2.heap[G T[i].num]?=some (.cells (cG G y).toArray 109 (0,0))):mm kb mb sb pb qb bb tb D ks G (T.set i y) L ci co c U w2:=by
 have hm:∀t∈T.set i y,t=y\/∃t2∈T,t2=t/\t.num≠T[i].num\/(t∈T/\t.num=T[i].num):=λt ht=>by
  rcases List.mem_or_eq_of_mem_set ht with h1|h1
  ·by_cases a:t.num=T[i].num
   ·exact Or.inr ⟨t,h1,Or.inr ⟨h1,a⟩⟩
   exact Or.inr ⟨t,h1,Or.inl ⟨rfl,a⟩⟩
  exact Or.inl h1
 have n:=h.th _ (List.getElem_mem hi);have g:∀t∈T.set i y,∃t2∈T,t2.num=t.num:=λt ht=>by
  rcases List.mem_or_eq_of_mem_set ht with h1|h1
  ·exact⟨t,h1,rfl⟩
  exact⟨T[i],List.getElem_mem hi,by rw[h1,hy]⟩
 refine⟨H.keep b h.k (λe=>ef h.k n I e),h.m.keep b (λe=>h.m.ne n e.symm),(Dt hi hy)▸h.kt,λt ht=>?_,λt ht s hs e=>?_,h.uk,h.um,λt ht=>?_,λk hk=>Nat.lt_of_lt_of_le (h.low k hk) b.size,by rw[List.length_set];exact h.nt⟩
 ·by_cases a:t=y
  ·rwa[a,hy]
  have h1:=(List.mem_or_eq_of_mem_set ht).resolve_right a;by_cases d:t.num=T[i].num
  ·
   exfalso;have⟨j,o,f⟩:=List.getElem_of_mem ht;rw[List.length_set] at o;by_cases l:i=j
   ·subst l;rw[List.getElem_set_self] at f;exact a f.symm
   rw[List.getElem_set_ne l] at f;have:=(List.getElem_inj (i:=i) (j:=j) (h₀:=by rw[List.length_map];exact hi) (h₁:=by rw[List.length_map];exact o) (h.kt.nodup_iff.1 h.m.nd)).1 (by rw[List.getElem_map,List.getElem_map,f,d]);exact l this
  exact H.keep b (h.th t h1) (λe=>d (h.gi t h1 _ (List.getElem_mem hi) e))
 ·have⟨t2,a,m⟩:=g t ht;have⟨s2,d,p⟩:=g s hs;rw[<-m,<-p] at e|-;exact h.gi t2 a s2 d e
 have⟨t2,a,m⟩:=g t ht;rw[<-m];exact h.ut t2 a
theorem aq.yE(h:aq U w kb mb sb pb qb bb tb D ks G K)(hi:i<K.T.length)(hy:y.num=K.T[i].num)(a:H (λk=>k=G K.T[i].num) w w2)(hb:w2.heap[G K.T[i].num]?=some (.cells (cG G y).toArray 109 (0,0))):aq U w2 kb mb sb pb qb bb tb D ks G {K with T:=K.T.set i y}/\Zn U w w2:=by
 have⟨d,b,_,_,c⟩:=aN.open h 5 rfl;exact c (mm kb mb sb pb qb bb tb D ks G (K.T.set i y) K.L K.ci K.co K.c) w2 mm.dF (b.yE hi hy a hb) (a.mono (λk _ hk=>by subst hk;exact b.ut _ (List.getElem_mem hi)))
end
section
variable {T:List Kt}
theorem aq.th(h:aq U w kb mb sb pb qb bb tb D ks G K)(hi:i<K.T.length):w.heap[G K.T[i].num]?=some (.cells (cG G K.T[i]).toArray 109 (0,0)):=by
 have⟨b,a⟩:=h.own;exact a.th _ (List.getElem_mem hi)
end
theorem aq.ready(h:aq U w kb mb sb pb qb bb tb D ks G K)(n)(hn:af n):Zk 102 #[M qb,O n] w λe w'=>Zr e (O (jw K.ss n))/\aq U w' kb mb sb pb qb bb tb D ks G {K with ss:=(if jw K.ss n=0 then nJ K.ss K.ck n else K.ss),ck:=(if jw K.ss n=0 then K.ck+1 else K.ck)}/\Zn U w w':=
 aN.call h 3 rfl (jY.dF qb K.ts K.t K.lf (if jw K.ss n=0 then nJ K.ss K.ck n else K.ss) (if jw K.ss n=0 then K.ck+1 else K.ck)) (λd a=>by
  obtain⟨G,a⟩:=a;refine(acv a n hn).m ?_;rintro e w' ⟨h1,b,c⟩
  exact⟨h1,⟨G,b⟩,c⟩)
theorem aq.Ic(h:aq U w kb mb sb pb qb bb tb D ks G K)(b:K.ss.length<1000000)(n d p)(hn:af n):Zk 51 #[M qb,O n,O d,O p] w λe w'=>Zr e (O (jn K.ss n d p))/\aq U w' kb mb sb pb qb bb tb D ks G {K with ss:=de K.ss n d p}/\Zn U w w':=
 aN.call h 3 rfl (jY.dF qb K.ts K.t K.lf (de K.ss n d p) K.ck) (λc a=>by
  obtain⟨G,a⟩:=a
  exact UN a b n d p hn)
theorem aeq(G t):(cG G t).toArray.setIfInBounds 1 (O 1)=(cG G {t with st:=1}).toArray:=by
 simp[cG,lx]
section
variable {T:List Kt}
theorem UH(h:aq U w kb mb sb pb qb bb tb D ks G K)(hn:af n)(hi:da K.T n=some i):Zk 61 #[M kb,.pointer (some ⟨G n,0,none⟩),O 1] w λe w'=>Zr e (.tuple #[])/\aq U w' kb mb sb pb qb bb tb D ks G (yz K i n)/\Zn U w w':=by
 have⟨m,o⟩:=Dr hi;have r:K.T.getD i .df=K.T[i]:=by simp[List.getD,m]
 have c:=h.th m;have h1:=heap_setCell_same w (G K.T[i].num) 1 _ _ (O 1) c;rw[aeq] at h1;have⟨b,d⟩:=h.yE m (y:={K.T[i] with st:=1}) rfl ((H.refl (λk=>k=G K.T[i].num) w).setCell (p:=⟨G K.T[i].num,1,none⟩) (Or.inl rfl) _) h1;have s:w.cell? ⟨G K.T[i].num,0,none⟩=some (O K.T[i].num):=Zl c;have j:w.cell? ⟨G K.T[i].num,1,none⟩=some (O K.T[i].st):=Zl c;have t:=fX c 1;have l:(w.setCell ⟨G K.T[i].num,1,none⟩ (O 1)).cell? ⟨G K.T[i].num,0,none⟩=some (O K.T[i].num):=Zl h1;have q:=b.x.c3;rw[o] at b d s j t l q;have⟨w1,f⟩:=Ze (w.setCell ⟨G n,1,none⟩ (O 1));rw[<-f] at b d l q;have F:=Y (⟨b,d⟩:_/\_);have⟨z,a⟩:=Ze (yz K i n);rw[<-a];unfold yz at a;rw[r] at a;have⟨g,hg⟩:=Ze (G n);rw[<-hg] at s j t l f|-;by_cases s1:K.T[i].st=1
 ·rw[if_pos s1] at a;have A:=Y a;rw[s1] at j;clear h hn hi o r c h1 b d a s1 hg;go_enter func61,ntmps61;go_upto_region 2 with fail
  rw[<-f];clear f;go_wp2_with fail
  all_goals
   go_end0;exact⟨rfl,by rw[A.j];exact F.j⟩
 rw[if_neg s1] at a;have A:=Y a;have n1:(K.T[i].st !=1)=true:=by simpa using s1
 have N:Hid (Zk 102 #[M qb,O n] w1.drew λe w'=>Zr e (O (jw K.ss n))/\Hid (aq U w' kb mb sb pb qb bb tb D ks G z/\Zn U w w')/\Hid (w'.cell? (E kb 3)=some (M qb)/\w'.cell? (E g 0)=some (O n))):=by
  refine((b.quiet ((H.refl _ w1).drew)).ready n hn).m ?_;rintro e w' ⟨rfl,u,P⟩;have v:aq U w' kb mb sb pb qb bb tb D ks G z:=by rw[a];exact u
  refine⟨rfl,⟨v,d.trans (((H.refl _ w1).drew).trans P)⟩,u.x.c3,?_⟩;have x:i<(K.T.set i {K.T[i] with st:=1}).length:=by rw[List.length_set];exact m
  have:=u.th (i:=i) x;have Q:(K.T.set i {K.T[i] with st:=1})[i]={K.T[i] with st:=1}:=List.getElem_set_self _;simp only[Q] at this;rw[show({K.T[i] with st:=1}:Kt).num=n from o,<-hg] at this;exact Zl this
 have B:Hid (Zc w1.drew kb 3 (M qb)/\Zc w1.drew g 0 (O n)):=⟨q,l⟩
 have C:=B;generalize K.T[i].st=sv at j n1;clear h hn hi o r c h1 b d a s1 hg;go_enter func61,ntmps61;go_upto_region 2 with fail
 rw[<-f];clear f;go_upto_region 3 with fail
 clear s j t l q;go_region_held3 (λwv=>Zc wv kb 3 (M qb)/\Zc wv g 0 (O n)) (with_reducible (first|exact B.j|exact C.j)) (first|(go_at_call 102;refine N.j.m ?_;rintro e S ⟨rfl,R,C⟩));go_wp2_with fail
 all_goals
  go_end0;exact⟨rfl,R.j⟩
end
structure ai(U:Z1)(w:Z0)(kb mb sb pb qb bb tb:Nat)(D:DataW Value)(ks:List Int)(G:Int->Nat)(F:List (Nat×Obj))(K:Kn)(wv:Z0):Prop where
 k:∃V:Z1,(∀k,U k->V k)/\(∀p∈F,V p.1)/\aq V wv kb mb sb pb qb bb tb D ks G K
 f:∀p∈F,wv.heap[p.1]?=some p.2
 o:Zn U w wv
theorem ai.start(h:aq U w kb mb sb pb qb bb tb D ks G K):ai U w kb mb sb pb qb bb tb D ks G [] K w:=⟨⟨U,λ_ h=>h,λp hp=>(by cases hp),h⟩,λp hp=>(by cases hp),H.refl _ _⟩
theorem ai.quiet(h:ai U w kb mb sb pb qb bb tb D ks G F K wv)(a:Zq wv w2):ai U w kb mb sb pb qb bb tb D ks G F K w2:=by
 have⟨⟨V,h1,b,c⟩,d,e⟩:=h;exact⟨⟨V,h1,b,c.quiet a⟩,λp hp=>H.keep a (d p hp) id,e.trans (a.f)⟩
theorem ai.drew(h:ai U w kb mb sb pb qb bb tb D ks G F K wv):ai U w kb mb sb pb qb bb tb D ks G F K wv.drew:=h.quiet ((H.refl _ _).drew)
theorem ai.alloc(h:ai U w kb mb sb pb qb bb tb D ks G F K wv)(o):ai U w kb mb sb pb qb bb tb D ks G ((wv.heap.size,o)::F) K (wv.alloc o):=by
 have⟨⟨V,h1,b,c⟩,d,e⟩:=h;have a:Zq wv (wv.alloc o):=(H.refl _ wv).alloc o;refine⟨⟨_,λk hk=>Or.inl (h1 k hk),λp hp=>?_,c.wide a⟩,λp hp=>?_,e.trans (a.f)⟩
 ·rcases List.mem_cons.1 hp with rfl|hp
  ·exact Or.inr ⟨Nat.le_refl _,by simp⟩
  exact Or.inl (b p hp)
 rcases List.mem_cons.1 hp with rfl|hp
 ·exact heap_alloc_last wv o
 exact H.keep a (d p hp) id
theorem ai.at(h:ai U w kb mb sb pb qb bb tb D ks G F K wv)(hm:(b,o)∈F):wv.heap[b]?=some o:=h.f _ hm
theorem ai.call(h:ai U w kb mb sb pb qb bb tb D ks G F K wv){f:FuncId}(c:∀V,aq V wv kb mb sb pb qb bb tb D ks G K->Zk f args wv λe w'=>Zr e v/\aq V w' kb mb sb pb qb bb tb D ks G K2/\Zn V wv w'):
  Zk f args wv λe w'=>Zr e v/\Hid (ai U w kb mb sb pb qb bb tb D ks G F K2 w'):=by
 have⟨⟨V,h1,a,d⟩,g,i⟩:=h;refine(c V d).m ?_;rintro e w' ⟨rfl,j,b⟩;exact⟨rfl,⟨V,h1,a,j⟩,λp hp=>H.keep b (g p hp) (λh=>h (a p hp)),i.trans (b.mono (λk _ l m=>l (h1 k m)))⟩
theorem ai.read(h:ai U w kb mb sb pb qb bb tb D ks G F K wv){f:FuncId}(a:∀V,aq V wv kb mb sb pb qb bb tb D ks G K->Zk f args wv λe w'=>Zr e v/\Zq wv w'):
  Zk f args wv λe w'=>Zr e v/\Hid (ai U w kb mb sb pb qb bb tb D ks G F K w'):=by
 have⟨⟨V,h1,d,b⟩,g,i⟩:=h;refine(a V b).m ?_;rintro e w' ⟨rfl,c⟩;exact⟨rfl,h.quiet c⟩
theorem ai.fin(h:ai U w kb mb sb pb qb bb tb D ks G F K wv):aq U wv kb mb sb pb qb bb tb D ks G K/\Zn U w wv:=by
 have⟨⟨V,h1,c,a⟩,d,b⟩:=h;exact⟨a.thin h1,b⟩
theorem ai.c(h:ai U w kb mb sb pb qb bb tb D ks G F K wv):wv.cell? (E kb 0)=some (M mb)/\wv.cell? (E kb 1)=some (M sb)/\wv.cell? (E kb 2)=some (M pb)/\wv.cell? (E kb 3)=some (M qb)/\wv.cell? (E kb 4)=some (M bb)/\wv.cell? (E kb 5)=some (.map (some tb)):=by
 have⟨⟨V,h1,b,a⟩,c,d⟩:=h;exact⟨a.x.c0,a.x.c1,a.x.c2,a.x.c3,a.x.c4,a.x.c5⟩
theorem ai.Es(h:ai U w kb mb sb pb qb bb tb D ks G F K wv)(hm:(b,.cells cs.toArray T (0,0))∈F)(j):wv.cell? (E b j)=cs[j]?:=(cell_of_row _ _ j _ _ (0,0) (h.at hm)).trans (by simp)
theorem ai.low(h:ai U w kb mb sb pb qb bb tb D ks G F K wv):∀k,U k->k<wv.heap.size:=by
 have⟨⟨V,h1,b,a⟩,_,_⟩:=h;exact λk hk=>aN.ul a k (h1 k hk)
theorem ai.rh(h:ai U w kb mb sb pb qb bb tb D ks G ((b,o)::F) K wv)(c:H (λk=>k=b) wv w2)(hb:w2.heap[b]?=some o2)(e:¬U b)(f:∀p∈F,p.1≠b):ai U w kb mb sb pb qb bb tb D ks G ((b,o2)::F) K w2:=by
 have⟨⟨V,h1,d,g⟩,i,j⟩:=h;refine⟨⟨V,h1,λq a=>?_,jX.j (aN.dF _) g c (λk _ hk=>by subst hk;exact d _ List.mem_cons_self)⟩,λq a=>?_,j.trans (c.mono (λk _ hk=>by subst hk;exact e))⟩
 ·rcases List.mem_cons.1 a with rfl|a
  ·exact d (b,o) List.mem_cons_self
  exact d q (List.mem_cons_of_mem _ a)
 rcases List.mem_cons.1 a with rfl|a
 ·exact hb
 exact H.keep c (i q (List.mem_cons_of_mem _ a)) (f q a)
theorem ai.l9(h:ai U w kb mb sb pb qb bb tb D ks G ((ub,.cells jd.toArray 84 (0,0))::F) K wv)(u)(a:¬U ub)(b:∀p∈F,p.1≠ub):ai U w kb mb sb pb qb bb tb D ks G ((ub,.cells (bj u).toArray 84 (0,0))::F) K (wv.setCells ub 0 (bj u)):=by
 have⟨h1,c⟩:=vB (bj u) [] jd wv rfl (h.at List.mem_cons_self);exact h.rh c h1 a b
theorem ai.x(h:ai U w kb mb sb pb qb bb tb D ks G F K wv):aj U w kb mb sb pb qb bb tb F K wv:=by
 have⟨⟨V,h1,a,b⟩,c,d⟩:=h;exact⟨⟨V,h1,a,b.x⟩,c,d⟩
def rV(x:Tc):List Value:=ny .u32 x.rg++[J x.pc]
theorem N5(x):(rV x).length=33:=by simp[rV,mH]
theorem ao9(x):∀u∈rV x,u.oneCell'=true:=λu hu=>by
 rcases List.mem_append.1 hu with hu|hu
 ·exact Qa _ _ u hu
 rw[List.mem_singleton] at hu;rw[hu];rfl
theorem Ys:(prog.info? 66).map (·.size)=some 33:=Zx
theorem aex(x):tZ x=[O x.num,O x.cy,O x.prio,.bool x.yA]++rV x:=rfl
theorem Px(G t):cG G t=[O t.num,O t.st]++((ny .u32 t.rg++[J t.pc])++[lx G t.dV,lx G t.dD,.bool t.gr]):=by
 unfold cG;rw[List.append_assoc];rfl
theorem VU{g:Nat}:∀(c pre a:List Value) (w:Z0),a.length=c.length->w.heap[g]?=some (.cells (pre++(a++post)).toArray t (0,0))->(w.setCells g pre.length c).heap[g]?=some (.cells (pre++(c++post)).toArray t (0,0))/\H (λk=>k=g) w (w.setCells g pre.length c)
 |[],pre,a,w,b,h=>by
  have:a=[]:=List.length_eq_zero_iff.1 b;subst this
  exact⟨h,H.refl _ w⟩
 |v::r,pre,[],w,b,h=>by cases b
 |v::r,pre,s::a,w,b,h=>by
  have h1:=heap_setCell_same w g pre.length _ _ v h
  have e1:(pre++(s::a++post)).toArray.setIfInBounds pre.length v=((pre++[v])++(a++post)).toArray:=by
   simp
  rw[e1] at h1;obtain⟨d,e⟩:=VU r (pre++[v]) a _ (by simpa using b) h1;have f:(pre++[v]).length=pre.length+1:=by simp
  rw[f] at d e;refine⟨?_,(H.setCell (S:=λk=>k=g) (H.refl _ w) (p:=E g pre.length) (Or.inl rfl) v).trans e⟩;rw[List.append_assoc] at d;exact d
theorem aq.ctx(h:aq U w kb mb sb pb qb bb tb D ks G K)(hi:i<K.T.length)(x):(∃w2,(storeCells ⟨G K.T[i].num,2,none⟩ (rV x)).run prog w=.ok () w2/\w2.frozen? ⟨G K.T[i].num,2,none⟩=false/\(∃v,w2.cell? ⟨G K.T[i].num,2,none⟩=some v)/\H (λk=>k=G K.T[i].num) w w2/\aq U (w2.setCell ⟨G K.T[i].num,2,none⟩ (J 0)) kb mb sb pb qb bb tb D ks G {K with T:=K.T.set i {K.T[i] with rg:=pk x.rg,pc:=x.pc}}/\Zn U w (w2.setCell ⟨G K.T[i].num,2,none⟩ (J 0))):=by
 have a:=h.th hi;rw[Px] at a;have g:(ny .u32 K.T[i].rg++[Value.int .u32 K.T[i].pc]).length=(rV x).length:=by rw[N5];simp[mH]
 obtain⟨b,d⟩:=VU (rV x) [O K.T[i].num,O K.T[i].st] (ny .u32 K.T[i].rg++[J K.T[i].pc]) w g a
 have c:w.there (G K.T[i].num) 2 (rV x).length:=λj e=>by
  refine⟨?_,fX a _⟩;rw[cell_of_row _ _ (2+j) _ _ (0,0) a,List.getElem?_toArray,List.getElem?_append_right (by simp),List.getElem?_append_left (by rw[N5] at e;simp[mH];omega),List.getElem?_eq_getElem (by rw[N5] at e;simp[mH];omega)];exact rfl
 have l:=L0 w (G K.T[i].num) 2 (rV x) c (ao9 x);have f:=heap_setCell_same _ (G K.T[i].num) 2 _ _ (J 0) b
 have m:([Value.int .i64 K.T[i].num,O K.T[i].st]++(rV x++[lx G K.T[i].dV,lx G K.T[i].dD,.bool K.T[i].gr])).toArray.setIfInBounds 2 (J 0)=(cG G {K.T[i] with rg:=pk x.rg,pc:=x.pc}).toArray:=by
  rw[Px,List.setIfInBounds_toArray];congr 1
 rw[m] at f;have n:H (λk=>k=G K.T[i].num) w ((w.setCells (G K.T[i].num) 2 (rV x)).setCell ⟨G K.T[i].num,2,none⟩ (J 0)):=d.setCell (p:=⟨G K.T[i].num,2,none⟩) (Or.inl rfl) _;obtain⟨o,q⟩:=h.yE hi (y:={K.T[i] with rg:=pk x.rg,pc:=x.pc}) rfl n f;exact⟨_,l,fX b _,⟨J (x.rg 0),Zl b⟩,d,o,q⟩
theorem aca(w):(zeroValue 106).run prog w=.ok (.pointer none) w:=Zx
theorem aq.look(h:aq U w kb mb sb pb qb bb tb D ks G K)(n:Int)(hn:af n):(Instr.lookup 96 (.map (some tb)) (O n) false).run prog w=.ok (match da K.T n with|some _=>.pointer (some ⟨G n,0,none⟩)|none=>.pointer none) w:=by
 have⟨c,a⟩:=h.own;rw[a.m.look (t:=96) (e:=106) underlying96 aca n hn];unfold yK;cases hf:da K.T n with
 |some i=>
  have⟨hi,he⟩:=Dr hf;rw[if_pos (a.kt.mem_iff.2 (List.mem_map.2 ⟨_,List.getElem_mem hi,he⟩))]
 |none=>
  rw[if_neg (λb=>by
   have⟨t,ht,he⟩:=List.mem_map.1 (a.kt.mem_iff.1 b);have:=jQ hf t ht;simp[he] at this)]
theorem apH(h:au U w kb mb sb pb qb bb tb K)(hw:bE K)(x)(hn:af x.num):
  Zk 48 #[M kb,.agg (tZ x).toArray] w λe w'=>Zr e (O (di K x).2)/\au U w' kb mb sb pb qb bb tb (di K x).1/\Zn U w w':=by
 have⟨KE,s⟩:=Ze (di K x);rw[<-s];have⟨D,ks,G,hg⟩:=h.g;have⟨w1,N⟩:=Ze (w.alloc (.cells (tZ x).toArray 81));have⟨ob,P⟩:=Ze (w.heap.size);have H1:Hid (ai U w kb mb sb pb qb bb tb D ks G [(ob,.cells (tZ x).toArray 81 (0,0))] K w1):=by rw[N,P];exact(ai.start hg).alloc _
 have b:Hid (∀j wv,ai U w kb mb sb pb qb bb tb D ks G [(ob,.cells (tZ x).toArray 81 (0,0))] j wv->wv.cell? (E kb 3)=some (M qb)/\wv.cell? (E kb 5)=some (.map (some tb))/\wv.cell? (E ob 0)=some (O x.num)/\wv.cell? (E ob 1)=some (O x.cy)/\wv.cell? (E ob 2)=some (O x.prio)/\wv.cell? (E ob 3)=some (.bool x.yA)/\wv.rangeAt ob 4 (rV x)):=λj wv h=>⟨h.c.2.2.2.1,h.c.2.2.2.2.2,(h.Es List.mem_cons_self 0).trans rfl,(h.Es List.mem_cons_self 1).trans rfl,(h.Es List.mem_cons_self 2).trans rfl,(h.Es List.mem_cons_self 3).trans rfl,λq u hq=>by
  rw[h.Es List.mem_cons_self (4+q),aex,List.getElem?_append_right (by simp),show 4+q - [Value.int .i64 x.num,O x.cy,O x.prio,.bool x.yA].length=q from by simp];exact hq⟩
 have t:Hid (∀wv,ai U w kb mb sb pb qb bb tb D ks G [(ob,.cells (tZ x).toArray 81 (0,0))] K wv->(Instr.lookup 96 (.map (some tb)) (O x.num) false).run prog wv=.ok (match da K.T x.num with|some _=>.pointer (some ⟨G x.num,0,none⟩)|none=>.pointer none) wv):=λwv h=>by
  have⟨⟨V,h1,h2,h3⟩,h4,h5⟩:=h;exact h3.look x.num hn
 have Q:Hid (∀F wv,ai U w kb mb sb pb qb bb tb D ks G F K wv->Zk 51 #[M qb,O x.num,O x.cy,O x.prio] wv λe w'=>Zr e (O (jn K.ss x.num x.cy x.prio))/\Hid (ai U w kb mb sb pb qb bb tb D ks G F {K with ss:=de K.ss x.num x.cy x.prio} w')):=λF wv h=>h.call (λV h=>h.Ic (by have:=hw.ns;omega) _ _ _ hn);have HN:=Y hn;cases hf:da K.T x.num with
 |none=>
  have c:Hid (KE=(K,6)):=by show KE=(K,6);rw[s];unfold di;rw[hf]
  rw[hf] at t;have a:Hid (Zc w1.drew kb 5 (.map (some tb))/\Zc w1.drew ob 0 (O x.num)/\(Instr.lookup 96 (.map (some tb)) (O x.num) false).run prog w1.drew=.ok (.pointer none) w1.drew):=⟨(b.j _ _ H1.j.drew).2.1,(b.j _ _ H1.j.drew).2.2.1,t.j _ H1.j.drew⟩;have⟨n,l⟩:=Ze (x.num);rw[<-l] at a;clear h hw hn s hg hf b t Q l;go_enter func48,ntmps48;go_upto_region 1 with fail
  rw[<-N,<-P];clear N P;refine lY (S:=(λwv=>wv.cell? (E kb 5)=some (.map (some tb))/\wv.cell? (E ob 0)=some (O n)/\(Instr.lookup 96 (.map (some tb)) (O n) false).run prog wv=.ok (.pointer none) wv)) Zx ?_;simp only[List.size_toArray,List.length_cons,List.length_nil,Nat.zero_add,Nat.reduceAdd];refine Zt 0 a.j ?_;refine Zt 1 a.j ?_;refine Zt 2 a.j ?_;refine Zt 3 a.j ?_;refine Zt 4 a.j ?_;refine Zt 5 a.j ?_;refine Zt 6 a.j ?_;refine Zt 7 a.j ?_;refine wpAnyH_done Zx ?_ _;go_wp2_with fail
  all_goals
   go_ret
   exact⟨Zz c.j,by rw[c.j];exact H1.j.drew.x.fin⟩
 |some i=>
  obtain⟨dt,fu⟩:=Dr hf;have jU:K.T.getD i .df=K.T[i]:=by simp[List.getD,dt]
  rw[hf] at t;have a:Hid (Zc w1.drew kb 5 (.map (some tb))/\Zc w1.drew ob 0 (O x.num)/\(Instr.lookup 96 (.map (some tb)) (O x.num) false).run prog w1.drew=.ok (.pointer (some ⟨G x.num,0,none⟩)) w1.drew):=⟨(b.j _ _ H1.j.drew).2.1,(b.j _ _ H1.j.drew).2.2.1,t.j _ H1.j.drew⟩
  obtain⟨R,A⟩:=Ze (jn K.ss x.num x.cy x.prio);obtain⟨f,W⟩:=Ze ({K with ss:=de K.ss x.num x.cy x.prio});rw[<-A,<-W] at Q
  have OU:Hid (R≠0->KE=(K,R)/\f=K):=λh0=>by
   refine⟨?_,by rw[W,show de K.ss x.num x.cy x.prio=K.ss from if_neg (by rw[<-A];exact h0)]⟩;rw[s];unfold di;rw[hf];dsimp only;rw[if_neg (by rw[<-A];exact h0),A]
  have B:Hid (f.T=K.T):=by rw[W];exact rfl
  have Nq:i<f.T.length:=by rw[B.j];exact dt
  have Sp:f.T[i].num=x.num:=by have e:=B.j;revert Nq;rw[e];intro _;exact fu
  obtain⟨y,hy⟩:=Ze ({f.T[i] with rg:=pk x.rg,pc:=x.pc}:Kt);obtain⟨K2,vQ⟩:=Ze ({f with T:=f.T.set i y})
  have bK:Hid (R=0->KE=(if x.yA=true then yz K2 i x.num else K2,0)):=λh0=>by
   have Rj:y={K.T.getD i .df with rg:=pk x.rg,pc:=x.pc}:=by
    rw[hy,jU];have e:=B.j
    revert Nq
    rw[e];intro _ _ _;rfl
   rw[s,aeg hf (by rw[<-A];exact h0) Rj,vQ,B.j,W]
  have qX:Hid (da K2.T x.num=some i):=by
   rw[vQ];show da (f.T.set i y) x.num=some i;rw[B.j];exact Vk hf (by rw[hy];exact Sp)
  have Uy:Hid (∀wv,ai U w kb mb sb pb qb bb tb D ks G [(ob,.cells (tZ x).toArray 81 (0,0))] f wv->∃w2,(storeCells ⟨G x.num,2,none⟩ (rV x)).run prog wv=.ok () w2/\w2.frozen? ⟨G x.num,2,none⟩=false/\(∃v,w2.cell? ⟨G x.num,2,none⟩=some v)/\ai U w kb mb sb pb qb bb tb D ks G [(ob,.cells (tZ x).toArray 81 (0,0))] K2 (w2.setCell ⟨G x.num,2,none⟩ (J 0))):=λwv h=>by
   obtain⟨⟨V,h1,h2,h3⟩,h4,h5⟩:=h;obtain⟨w2,a1,a2,a3,_,a4,a5⟩:=h3.ctx Nq x;rw[Sp] at a1 a2 a3 a4 a5;refine⟨w2,a1,a2,a3,⟨V,h1,h2,by rw[vQ,hy];exact a4⟩,λp hp=>H.keep a5 (h4 p hp) (λh=>h (h2 p hp)),h5.trans (a5.mono (λk _ h8 h9=>h8 (h1 k h9)))⟩
  obtain⟨n,l⟩:=Ze (x.num);obtain⟨g,nW⟩:=Ze (G x.num);have dh:=Y (λwv(h:ai U w kb mb sb pb qb bb tb D ks G [(ob,.cells (tZ x).toArray 81 (0,0))] K2 wv)=>h.call (λV h=>UH h hn qX.j))
  rw[<-nW] at dh Uy a;rw[<-l] at a Q bK;obtain⟨KR,S4⟩:=Ze (yz K2 i x.num);rw[<-S4] at dh;rw[l,<-S4] at bK;replace b:Hid (∀j wv,ai U w kb mb sb pb qb bb tb D ks G [(ob,.cells (tZ x).toArray 81 (0,0))] j wv->Zc wv kb 3 (M qb)/\Zc wv ob 0 (O n)/\Zc wv ob 1 (O x.cy)/\Zc wv ob 2 (O x.prio)/\Zc wv ob 3 (.bool x.yA)/\wv.rangeAt ob 4 (rV x)):=λj wv h=>by rw[l];exact⟨(b.j j wv h).1,(b.j j wv h).2.2⟩
  obtain⟨d,hd⟩:=Ze (x.cy);obtain⟨p,hp⟩:=Ze (x.prio);obtain⟨r,hr⟩:=Ze (x.yA);obtain⟨cx,Ef⟩:=Ze (rV x);have pY:Hid (some 33=some cx.toArray.size):=by rw[Ef];exact congrArg some (N5 x).symm
  rw[<-hd,<-hp] at Q;rw[<-hd,<-hp,<-hr,<-Ef] at b;rw[<-hr] at bK;rw[<-Ef] at Uy;clear h hw hn s hg hf t A W dt fu jU Nq Sp hy vQ l nW S4 hd hp hr Ef B qX;go_enter func48,ntmps48;go_upto_region 1 with fail
  rw[<-N,<-P];clear N P;refine lY (S:=(λwv=>wv.cell? (E kb 5)=some (.map (some tb))/\wv.cell? (E ob 0)=some (O n)/\(Instr.lookup 96 (.map (some tb)) (O n) false).run prog wv=.ok (M g) wv)) Zx ?_;simp only[List.size_toArray,List.length_cons,List.length_nil,Nat.zero_add,Nat.reduceAdd];refine Zt 0 a.j ?_;refine Zt 1 a.j ?_;refine Zt 2 a.j ?_;refine Zt 3 a.j ?_;refine Zt 4 a.j ?_;refine Zt 5 a.j ?_;refine Zt 6 a.j ?_;refine Zt 7 a.j ?_;refine wpAnyH_done Zx ?_ _;have m:=Y H1.j.drew;clear a H1;obtain⟨w2,aL⟩:=Ze (w1.drew);rw[<-aL] at m|-;clear aL;go_upto_region 4 with fail
  have nj:=Y (Q.j _ _ m.j.drew);have a:Hid (Zc w2.drew kb 3 (M qb)/\Zc w2.drew ob 0 (O n)/\Zc w2.drew ob 1 (O d)/\Zc w2.drew ob 2 (O p)):=⟨(b.j _ _ m.j.drew).1,(b.j _ _ m.j.drew).2.1,(b.j _ _ m.j.drew).2.2.1,(b.j _ _ m.j.drew).2.2.2.1⟩
  have aK:=a;go_region_held3 (λwv=>Zc wv kb 3 (M qb)/\Zc wv ob 0 (O n)/\Zc wv ob 1 (O d)/\Zc wv ob 2 (O p)) (with_reducible (first|exact a.j|exact aK.j)) (first|(go_at_call 51;refine nj.j.m ?_;rintro e w3 ⟨rfl,o⟩;have aK:Hid (Zc w3 kb 3 (M qb)/\Zc w3 ob 0 (O n)/\Zc w3 ob 1 (O d)/\Zc w3 ob 2 (O p)):=⟨(b.j _ _ o.j).1,(b.j _ _ o.j).2.1,(b.j _ _ o.j).2.2.1,(b.j _ _ o.j).2.2.2.1⟩));clear a aK nj m;by_cases X:R=0
  ·have c:=Y (bK.j X);subst X;obtain⟨w4,bV,uE,⟨v4,MV⟩,C⟩:=Uy.j _ o.j;have C:=Y C;have gy:=Y (b.j _ _ o.j).2.2.2.2.2;obtain⟨w5,eZ⟩:=Ze (w4.setCell (E g 2) (J 0));rw[<-eZ] at C;have q3:=(b.j _ _ C.j).2.2.2.2.1;have dA:cx.length=33:=by have:=pY.j;injection this with this;simpa using this.symm
   go_upto_region 7 with fail
   go_upto_region 9 with(refine wpList_load_mid rfl 66 (.tmp 31) rfl ob 4 rfl cx _ gy.j underlying66 rfl (by rw[Ys];exact pY.j) ?_)
   rw[<-eZ];clear eZ bV uE MV gy dA
   cases r with
   |true=>
    have CN:=Y (dh.j _ C.j);go_wp2_with fail;refine CN.j.m ?_;rintro e w6 ⟨rfl,H6⟩;go_wp2_with fail
    all_goals
     go_ret
     exact⟨Zz c.j,by rw[c.j];exact H6.j.x.fin⟩
   |false=>
    go_wp2_with fail
    all_goals
     go_ret;exact⟨Zz c.j,by rw[c.j];exact C.j.x.fin⟩
  have e1:(R !=0)=true:=by simpa using X
  have c:=Y (OU.j X);clear X;go_wp2_with fail
  all_goals
   go_ret;exact⟨congrArg (λz:Kn×Int=>Ending.returned (Value.int .i64 z.2)) c.j.1.symm,by rw[c.j.1];have:=o.j.x.fin;rw[c.j.2] at this;exact this⟩
def MC:Lay Ln:=⟨uj,4,λ_=>rfl,λt u hu=>by
 simp only[uj,List.mem_cons,List.not_mem_nil,or_false] at hu
 rcases hu with rfl|rfl|rfl|rfl<;>rfl,I⟩
theorem aaR(L:Lay α):∀(xs:List α) (k:Nat) (hk:k<xs.length) (j:Nat),j<L.sz->(fl L xs)[k*L.sz+j]?=(L.cf xs[k])[j]?
 |[],k,hk,j,b=>by simp at hk
 |a::r,0,hk,j,b=>by
  rw[tD,Nat.zero_mul,Nat.zero_add,List.getElem?_append_left (by rw[L.len];exact b)]
  rfl
 |a::r,k+1,hk,j,b=>by
  rw[tD,List.getElem?_append_right (by rw[L.len,Nat.add_mul];omega),L.len,show(k+1)*L.sz+j - L.sz=k*L.sz+j by rw[Nat.add_mul];omega];exact aaR L r k (by simpa using hk) j b
theorem LI{L:List Ln}{c:Nat}(hi:i<L.length){j:Nat}(b:j<4):(ou mb sb pb qb bb tb L ci co c)[6+i*4+j]?=(uj L[i])[j]?:=by
 unfold ou;rw[List.getElem?_append_right (by simp;omega),show 6+i*4+j - [Value.pointer (some (E mb 0)),M sb,M pb,M qb,M bb,.map (some tb)].length=i*4+j from by simp;omega];have h1:=aaR MC L i hi j b;rw[show MC.sz=4 from rfl] at h1;rw[List.getElem?_append_left ?_]
 ·exact h1
 have:(L.flatMap uj).length=L.length*4:=by
  clear h1 hi
  induction L with
  |nil=>rfl
  |cons a r d=>rw[List.flatMap_cons,List.length_append,d];show 4+_=_;simp;omega
 rw[this];omega
theorem Di{L:List Ln}{c:Nat}(hi:i<L.length){j:Nat}(b:j<4){y:Ln}(he:(uj L[i]).set j v=uj y):(ou mb sb pb qb bb tb L ci co c).toArray.setIfInBounds (6+i*4+j) v=(ou mb sb pb qb bb tb (L.set i y) ci co c).toArray:=by
 have d:(L.flatMap uj).length=L.length*4:=by
  clear hi he
  induction L with
  |nil=>rfl
  |cons a r e=>rw[List.flatMap_cons,List.length_append,e];show 4+_=_;simp;omega
 rw[List.setIfInBounds_toArray];congr 1;unfold ou;rw[List.set_append,if_neg (by simp;omega)];congr 1;rw[show 6+i*4+j - [Value.pointer (some (E mb 0)),M sb,M pb,M qb,M bb,.map (some tb)].length=i*4+j from by simp;omega,List.set_append,if_pos (by rw[d];omega)];congr 1;exact aaO MC y j v L i hi b he
theorem mm.iQ{T:List Kt}{L:List Ln}{c:Nat}(h:mm kb mb sb pb qb bb tb D ks G T L ci co c U w)(a:H (λk=>k=kb) w w2)(hb:w2.heap[kb]?=some (.cells (ou mb sb pb qb bb tb L2 ci co c).toArray 104 (0,0))):mm kb mb sb pb qb bb tb D ks G T L2 ci co c U w2:=
 ⟨hb,h.m.keep a (λe=>h.m.ne h.k e.symm),h.kt,λt ht=>H.keep a (h.th t ht) (λe=>ef (h.th t ht) h.k I e),h.gi,h.uk,h.um,h.ut,λk hk=>Nat.lt_of_lt_of_le (h.low k hk) a.size,h.nt⟩
theorem au.iQ(h:au U w kb mb sb pb qb bb tb K)(a:H (λk=>k=kb) w w2)(hb:w2.heap[kb]?=some (.cells (ou mb sb pb qb bb tb L2 K.ci K.co K.c).toArray 104 (0,0))):au U w2 kb mb sb pb qb bb tb {K with L:=L2}/\Zn U w w2:=by
 have⟨d,⟨D,ks,G,b⟩,_,_,c⟩:=aN.open h 5 rfl;exact c (qQ kb mb sb pb qb bb tb K.T L2 K.ci K.co K.c) w2 qQ.dF ⟨D,ks,G,b.iQ a hb⟩ (a.mono (λk _ hk=>by subst hk;exact b.uk))
theorem aj.bind(h:aj U w kb mb sb pb qb bb tb F K wv)(t:K.L.length=8)(hi:i<8)(b g)(hm:(K.L.getD i .df).Bv=false)(hp:(K.L.getD i .df).pd=false):aj U w kb mb sb pb qb bb tb F {K with L:=K.L.set i ⟨b,g,false,false⟩} ((wv.setCell (E kb (6+i*4)) (O b)).setCell (E kb (6+i*4+1)) (J g)):=by
 have⟨⟨V,h1,d,e⟩,m,n⟩:=h;have a:i<K.L.length:=Z;have o:K.L.getD i .df=K.L[i]:=by simp[List.getD,a]
 rw[o] at hm hp;have e1:=heap_setCell_same wv kb (6+i*4) _ _ (O b) e.k;have s1:=Di (mb:=mb) (sb:=sb) (pb:=pb) (qb:=qb) (bb:=bb) (tb:=tb) (ci:=K.ci) (co:=K.co) (c:=K.c) a (j:=0) I (v:=O b) (y:={K.L[i] with ga:=b}) rfl;rw[Nat.add_zero] at s1;rw[s1] at e1;have f:=heap_setCell_same _ kb (6+i*4+1) _ _ (J g) e1;have s2:=Di (mb:=mb) (sb:=sb) (pb:=pb) (qb:=qb) (bb:=bb) (tb:=tb) (ci:=K.ci) (co:=K.co) (c:=K.c) (L:=K.L.set i {K.L[i] with ga:=b}) (i:=i) (List.length_set▸a) (j:=1) I (v:=J g) (y:=⟨b,g,false,false⟩) (by
  rw[List.getElem_set_self];show[Value.int .i64 b,J g,.bool K.L[i].Bv,.bool K.L[i].pd]=_;rw[hm,hp];rfl)
 rw[s2,List.set_set] at f;have⟨q,l⟩:=e.iQ (((H.refl (λk=>k=kb) wv).setCell (p:=E kb (6+i*4)) (Or.inl rfl) _).setCell (p:=E kb (6+i*4+1)) (Or.inl rfl) _) f;exact⟨⟨V,h1,d,q⟩,λp hp=>H.keep l (m p hp) (λh=>h (d p hp)),n.trans (l.mono (λk _ r s=>r (h1 k s)))⟩
theorem aj.line(h:aj U w kb mb sb pb qb bb tb F K wv)(f:K.L.length=8)(hi:i<8):wv.cell? (E kb (6+i*4))=some (O (K.L.getD i .df).ga)/\(∃v,wv.cell? (E kb (6+i*4+1))=some v)/\∀j,wv.frozen? (E kb j)=false:=by
 have⟨⟨V,h1,g,d⟩,k,l⟩:=h;have a:i<K.L.length:=Z;have e:K.L.getD i .df=K.L[i]:=by simp[List.getD,a]
 have hk:=d.k;have b:=LI (mb:=mb) (sb:=sb) (pb:=pb) (qb:=qb) (bb:=bb) (tb:=tb) (ci:=K.ci) (co:=K.co) (c:=K.c) a (j:=0) I;rw[Nat.add_zero] at b;rw[e];refine⟨(cell_of_row _ _ _ _ _ (0,0) hk).trans (by rw[List.getElem?_toArray,b];rfl),⟨J K.L[i].aQ,(cell_of_row _ _ _ _ _ (0,0) hk).trans (by rw[List.getElem?_toArray,LI (mb:=mb) (sb:=sb) (pb:=pb) (qb:=qb) (bb:=bb) (tb:=tb) (ci:=K.ci) (co:=K.co) (c:=K.c) a (j:=1) I];rfl)⟩,λj=>fX hk j⟩
theorem aj.half(h:aj U w kb mb sb pb qb bb tb F K wv)(e:K.L.length=8)(hi:i<8)(b):(∃v,(wv.setCell (E kb (6+i*4)) (O b)).cell? (E kb (6+i*4+1))=some v)/\(wv.setCell (E kb (6+i*4)) (O b)).frozen? (E kb (6+i*4+1))=false:=by
 have⟨⟨V,h1,f,d⟩,g,k⟩:=h;have a:i<K.L.length:=Z;have e1:=heap_setCell_same wv kb (6+i*4) _ _ (O b) d.k;have s1:=Di (mb:=mb) (sb:=sb) (pb:=pb) (qb:=qb) (bb:=bb) (tb:=tb) (ci:=K.ci) (co:=K.co) (c:=K.c) a (j:=0) I (v:=O b) (y:={K.L[i] with ga:=b}) rfl;rw[Nat.add_zero] at s1;rw[s1] at e1;refine⟨⟨J K.L[i].aQ,(cell_of_row _ _ _ _ _ (0,0) e1).trans ?_⟩,fX e1 _⟩;rw[List.getElem?_toArray,LI (mb:=mb) (sb:=sb) (pb:=pb) (qb:=qb) (bb:=bb) (tb:=tb) (ci:=K.ci) (co:=K.co) (c:=K.c) (L:=K.L.set i {K.L[i] with ga:=b}) (i:=i) (List.length_set▸a) (j:=1) I,List.getElem_set_self];rfl
theorem aqY(h:au U w kb mb sb pb qb bb tb K)(hl:K.L.length=8)(hz:∀l∈K.L,l.Bv=false/\l.pd=false)(c a b)(h2:af a):
  Zk 50 #[M kb,.agg #[O c,O a,J b]] w λe w'=>Zr e (O (fY K (c,a,b)).2)/\au U w' kb mb sb pb qb bb tb (fY K (c,a,b)).1/\Zn U w w':=by
 have⟨j,d⟩:=Ze (fY K (c,a,b));rw[<-d];unfold fY at d;dsimp only at d;have q:=Y (λw=>Yf c w);have⟨w1,r⟩:=Ze (w.alloc (.cells #[O c,O a,J b] 152));have⟨ob,s⟩:=Ze (w.heap.size);have⟨F,C⟩:∃F:List (Nat×Obj),F=[(ob,.cells #[O c,O a,J b] 152 (0,0))]:=⟨_,rfl⟩;have H1:Hid (aj U w kb mb sb pb qb bb tb F K w1):=by rw[r,C,s];exact(aj.start h).alloc _
 have D:Hid ((ob,.cells #[O c,O a,J b] 152 (0,0))∈F):=by rw[C];exact List.mem_cons_self
 have v:=Y (λK' wv(h:aj U w kb mb sb pb qb bb tb F K' wv)=>h.three D.j);have G:Hid (∀wv,aj U w kb mb sb pb qb bb tb F K wv->Zk 86 #[M kb,.agg #[O 8,O a]] wv λe w'=>Zr e (.bool (dJ K.os K.rs (8,a)))/\Hid (aj U w kb mb sb pb qb bb tb F K w')):=λwv h=>h.read (λV h=>MK h _ _ h2);have⟨B,hB⟩:=Ze (dJ K.os K.rs (8,a));rw[<-hB] at G d;have x:=Y hl;have HZ:=Y hz;obtain⟨N,P,Q⟩:=v.j _ _ H1.j;clear h h2 C hB hl hz;by_cases y:c<0\/7<c
 ·rw[if_pos y] at d;have f:=Y d;rw[decide_eq_false (show¬(0<=c/\c<8) from Z)] at q;clear d y;go_enter func50,ntmps50;go_upto_region 1 with fail
  rw[<-r,<-s];clear r s;go_wp2_with fail;refine(q.j _).e1 ?_;go_wp2_with fail
  all_goals
   go_ret;exact⟨Zz f.j,by rw[f.j];exact H1.j.fin⟩
 rw[if_neg y] at d;rw[decide_eq_true (show 0<=c/\c<8 from Z)] at q;obtain⟨li,R7⟩:∃li:Nat,c=(li:Int):=⟨c.toNat,Z⟩
 subst R7;have al:li<8:=Z;have z:=Y al;have gF:0<=(li:Int)/\(li:Int)<8:=Z;rw[Int.toNat_natCast] at d;have n:=Y d;clear y d;go_enter func50,ntmps50;go_upto_region 1 with fail
 rw[<-r,<-s];clear r s;go_wp2_with fail;refine(q.j _).e1 ?_;go_wp2_with fail;refine(G.j _ H1.j).m ?_;rintro e w2 ⟨rfl,A⟩;clear N P Q H1 q G;obtain⟨N,P,Q⟩:=v.j _ _ A.j
 cases B with
 |false=>
  have f:Hid (j=(K,6)):=by show j=(K,6);rw[n.j];first|rw[if_pos rfl]|rw[if_pos trivial]
  go_wp2_with fail
  all_goals
   go_ret
   exact⟨Zz f.j,by rw[f.j];exact A.j.fin⟩
 |true=>
  replace n:Hid (j=(if (K.L.getD li .df).ga≠ -1 then (K,7) else ({K with L:=K.L.set li ⟨a,b,false,false⟩},0))):=by
   have h9:=n.j;rw[if_neg I] at h9;exact h9
  go_upto_region 5 with fail
  go_quiet (fail);go_upto_region 6 with fail
  obtain⟨w3,R⟩:=Ze (w2.drewN nq);have i:Hid (aj U w kb mb sb pb qb bb tb F K w3):=by rw[R];exact A.j.quiet ((H.refl _ w2).drewN nq)
  rw[<-R];clear R N P Q A;obtain⟨Ay,⟨v1,cD⟩,uE⟩:=i.j.line x.j z.j;obtain⟨bl,aU⟩:=Ze ((K.L.getD li .df).ga);rw[<-aU] at Ay n;clear aU;by_cases n1:bl= -1
  ·subst n1;have f:Hid (j=({K with L:=K.L.set li ⟨a,b,false,false⟩},0)):=by show j=_;rw[n.j,if_neg I]
   have T:(K.L.getD li .df).Bv=false/\(K.L.getD li .df).pd=false:=by
    have rJ:li<K.L.length:=by have:=x.j;have:=z.j;omega
    have:K.L.getD li .df=K.L[li]:=by simp[List.getD,rJ]
    rw[this];exact HZ.j _ (List.getElem_mem rJ)
   have t:=Y (i.j.drew.bind x.j z.j a b T.1 T.2);obtain⟨m,o⟩:=Ze ((w3.setCell (E kb (6+li*4)) (O a)).drew);replace t:Hid (aj U w kb mb sb pb qb bb tb F {K with L:=K.L.set li ⟨a,b,false,false⟩} (m.setCell (E kb (6+li*4+1)) (J b))):=by rw[o];exact t
   obtain⟨⟨v4,MV⟩,u⟩:=i.j.half x.j z.j a;replace MV:m.cell? (E kb (6+li*4+1))=some v4:=by rw[o];exact MV
   replace u:m.frozen? (E kb (6+li*4+1))=false:=by rw[o];exact u
   have g:Hid (Zc w3.drew ob 1 (O a)/\Zc w3.drew ob 2 (J b)):=(v.j _ _ i.j.drew).2
   have W:Hid (m.cell? (E ob 1)=some (O a)/\m.cell? (E ob 2)=some (J b)):=by
    have aH:ob≠kb:=by
     intro e;have h1:=i.j.at D.j;obtain⟨⟨V,a1,a2,a3⟩,a4,a5⟩:=i.j;rw[e,a3.k] at h1;injection h1 with h1
     injection h1 with _ h1
     exact absurd h1 I
    have oM:H (λk=>k=kb) w3.drew m:=by rw[o];exact((H.refl (λk=>k=kb) w3.drew).setCell (p:=E kb (6+li*4)) (Or.inl rfl) (O a))
    have ZP:ob<w3.drew.heap.size:=aB (i.j.drew.at D.j);exact⟨(oM.cell (p:=E ob 1) ZP aH).trans g.j.1,(oM.cell (p:=E ob 2) ZP aH).trans g.j.2⟩
   obtain⟨w5,X⟩:=Ze (m.setCell (E kb (6+li*4+1)) (J b));rw[<-X] at t;have EO:Hid (Zc w5 ob 1 (O a)/\Zc w5 ob 2 (J b)):=(v.j _ _ t.j).2;clear T cD;go_upto_region 8 with fail
   refine lY (S:=(λwv=>wv.cell? (E ob 1)=some (O a)/\wv.cell? (E ob 2)=some (J b))) Zx ?_;simp only[List.size_toArray,List.length_cons,List.length_nil,Nat.zero_add,Nat.reduceAdd];refine Zt 0 g.j ?_;refine Zt 1 g.j ?_;refine Zt 2 g.j ?_;refine Zt 3 g.j ?_;refine Zt 4 g.j ?_;refine Zt 5 g.j ?_;refine Zt 6 g.j ?_;refine Zt 7 g.j ?_;refine Zy 8 (λK hK=>?_);go_simp;rw[<-o];clear o;refine Zb hK W.j ?_;refine Zt 9 W.j ?_;refine Zt 10 W.j ?_;refine Zy 11 (λK hK=>?_);go_simp;rw[<-X];clear X;refine Zb hK EO.j ?_;refine wpAnyH_done Zx ?_ _;go_wp2_with fail
   all_goals
    go_ret;exact⟨Zz f.j,by rw[f.j];exact t.j.fin⟩
  have n2:(bl != -1)=true:=by simpa using n1
  have f:Hid (j=(K,7)):=by show j=(K,7);rw[n.j,if_pos n1]
  clear n1;go_wp2_with fail
  all_goals
   go_ret;exact⟨Zz f.j,by rw[f.j];exact i.j.fin⟩
def bP(K:Kn):Prop:=bE K/\∀l∈K.L,l.Bv=false/\l.pd=false
theorem aiz(K x):(dH K x).1.L=K.L:=by
 unfold dH xM;dsimp only;repeat (first|rfl|split)
theorem aoM(K x):(dB K x).1.L=K.L:=by
 unfold dB;repeat (first|rfl|split)
theorem aoA(K x):(dI K x).1.L=K.L:=by
 unfold dI;repeat (first|rfl|split)
theorem ajD(K x):(dj K x).1.L=K.L:=by
 unfold dj nG;repeat (first|rfl|split)
theorem aeh(K x):(di K x).1.L=K.L:=by
 unfold di;cases da K.T x.num with
 |none=>rfl
 |some i=>
  dsimp only;repeat (first|rfl|split)
theorem bP.obj(h:bP K)(x)(hi:af x.2.1):bP (dH K x).1:=⟨h.1.obj x hi,by rw[aiz];exact h.2⟩
theorem bP.Ty(h:bP K)(x):bP (dB K x).1:=⟨h.1.Ty x,by rw[aoM];exact h.2⟩
theorem bP.cap(h:bP K)(x)(hg:ot x.cap)(hn:af x.cap.num):bP (dI K x).1:=⟨h.1.cap x hg hn,by rw[aoA];exact h.2⟩
theorem bP.map(h:bP K)(x):bP (dj K x).1:=⟨h.1.map x,by rw[ajD];exact h.2⟩
theorem bP.bL(h:bP K)(x)(a:Kd x):bP (di K x).1:=⟨h.1.bL x a,by rw[aeh];exact h.2⟩
theorem bP.irq(h:bP K)(x):bP (fY K x).1:=by
 refine⟨h.1.irq x,?_⟩;unfold fY;split
 ·exact h.2
 split
 ·exact h.2
 split
 ·exact h.2
 intro l a;rcases List.mem_or_eq_of_mem_set a with a|a
 ·exact h.2 l a
 rw[a];exact⟨rfl,rfl⟩
structure lS{α:Type}(L:Lay α)(U:Z1)(w:Z0)(p:Option Addr)(xs:List α):Prop where
 r:0<xs.length->∃g o,p=some (E g o)/\U g/\zp L w g o xs
 n:xs.length<=9223372036854775807
theorem lS.keep{L:Lay α}{p:Option Addr}(h:lS L U w p xs)(b:Zn U w w2):lS L U w2 p xs:=⟨λc=>by
 obtain⟨g,o,h1,a,d⟩:=h.r c
 exact⟨g,o,h1,a,d.keep b (λh=>h a)⟩,h.n⟩
theorem zp.Ij{L:Lay α}{g o:Nat}(h:zp L w g o xs){k:Nat}(hk:k<xs.length):w.rangeAt g (o+k*L.sz) (L.cf xs[k]):=λq u a=>by
 have b:q<L.sz:=by rw[<-L.len xs[k]];exact(List.getElem?_eq_some_iff.1 a).1
 rw[h.c k hk q b];exact a
theorem aj.fill(h:aj U w kb mb sb pb qb bb tb ((xb,.cells zs.toArray T (0,0))::F) K wv)(a:zs.length=cs.length)(h1:∀v∈cs,v.oneCell'=true)(b:¬U xb)(c:∀p∈F,p.1≠xb):∃w2,(storeCells (E xb 0) cs).run prog wv=.ok () w2/\aj U w kb mb sb pb qb bb tb ((xb,.cells cs.toArray T (0,0))::F) K w2:=by
 have hb:=h.at List.mem_cons_self;have⟨d,e⟩:=vB cs [] zs wv a hb;refine⟨_,L0 wv xb 0 cs (λq f=>⟨?_,fX hb _⟩) h1,h.rh e d b c⟩;rw[Nat.zero_add,cell_of_row _ _ q _ _ (0,0) hb,List.getElem?_toArray,List.getElem?_eq_getElem Z];rfl
theorem aj.Ii(h:aj U w kb mb sb pb qb bb tb F K wv)(hm:(xb,.cells cs.toArray T (0,0))∈F):wv.rangeAt xb 0 cs:=λq u a=>by
 rw[Nat.zero_add,h.Es hm q];exact a
theorem Yo:(prog.info? 81).map (·.size)=some sE.sz:=Zx
theorem anQ(h:au U w kb mb sb pb qb bb tb K)(hw:bP K){p:Option Addr}{c:Nat}{xs:List (Tc)}(hN:N=xs.length)(hr:lS sE U w p xs)(G:∀x∈xs,Kd x/\af x.num):
  Zk 47 #[.slice p N c,.func (.func 48) #[M kb] #[]] w λe w'=>Zr e (.tuple #[O (bf di K xs 0).2.1,O ((bf di K xs 0).2.2:Nat)])/\Hid (au U w' kb mb sb pb qb bb tb (bf di K xs 0).1/\bP (bf di K xs 0).1/\Zn U w w'):=by
 have⟨Q,z⟩:=Ze (bf di K xs 0);rw[<-z];have H0:Hid (fH di xs Q K 0/\bP K/\aj U w kb mb sb pb qb bb tb [] K w):=⟨by rw[z];exact fH.start di K xs,hw,aj.start h⟩;have uZ:=Y hr;have HR:=Y G;have P:=Y hN;have JH:(N:Int)<=9223372036854775807:=by have:=hr.n;omega
 have Kz:=Y (aN.ul h);clear h hw hr G z hN;go_enter func47,ntmps47;go_wp2;go_loopw [6,7,8,11] (λ_ _ _ d wr=>∃j:Nat,∃a,d=O (j:Int)/\j<=N/\Hid (fH di xs Q a j/\bP a/\aj U w kb mb sb pb qb bb tb [] a wr)) (λ_ _ _ d _=>N - (RowKit.intOf d).toNat)
 case atStart=>exact⟨0,K,rfl,Z,H0⟩
 case round=>
  obtain⟨j,a,rfl,hj,b⟩:=hrel;by_cases R:j<N
  ·have m:j<xs.length:=by have:=P.j;omega
   have h1:(j:Int)<(N:Int):=Z;have gF:0<=(j:Int)/\(j:Int)<(N:Int):=Z;have xe:=Zf j Z;obtain⟨g,o,rfl,Aq,S⟩:=(uZ.j.keep b.j.2.2.o).r Z;have i:=Y (S.Ij m);have n:=Y (HR.j _ (List.getElem_mem m));have f:Hid ((((di a xs[j]).2=0)->fH di xs Q (di a xs[j]).1 (j+1))/\((di a xs[j]).2≠0->Q=((di a xs[j]).1,(di a xs[j]).2,j))):=⟨λA=>b.j.1.next m A,λA=>b.j.1.bad m A⟩
   generalize xs[j]=x at i n f
   have r:Hid (∀F wv,aj U w kb mb sb pb qb bb tb F a wv->Zk 48 #[M kb,.agg (sE.cf x).toArray] wv λe w'=>Zr e (O (di a x).2)/\Hid (aj U w kb mb sb pb qb bb tb F (di a x).1 w')):=λF wv h=>h.call (λV h=>by
    have hw:=b.j.2.1;have hr:=n.j
    exact apH h hw.1 x hr.2)
   have s:Hid (bP (di a x).1):=by
    have hw:=b.j.2.1;have hr:=n.j;exact hw.bL x hr.1
   obtain⟨KE,T⟩:=Ze (di a x);rw[<-T] at f r s;obtain⟨cs,k⟩:=Ze (sE.cf x);have W:Hid (some sE.sz=some cs.length):=by rw[k];exact congrArg some (sE.len x).symm
   have X:cs.length=37:=by rw[k];exact sE.len x
   have qC:∀v∈cs,v.oneCell'=true:=by rw[k];exact sE.one x
   rw[<-k] at i r;rw[show sE.sz=37 from rfl] at i;obtain⟨w8,B⟩:=Ze (wr.alloc (.cells #[O 0,O 0,O 0,.bool false,J 0,J 0,J 0,J 0,J 0,J 0,J 0,J 0,J 0,J 0,J 0,J 0,J 0,J 0,J 0,J 0,J 0,J 0,J 0,J 0,J 0,J 0,J 0,J 0,J 0,J 0,J 0,J 0,J 0,J 0,J 0,J 0,J 0] 81));obtain⟨xb,t⟩:=Ze (wr.heap.size);have tA:aj U w kb mb sb pb qb bb tb [(xb,.cells [O 0,O 0,O 0,.bool false,J 0,J 0,J 0,J 0,J 0,J 0,J 0,J 0,J 0,J 0,J 0,J 0,J 0,J 0,J 0,J 0,J 0,J 0,J 0,J 0,J 0,J 0,J 0,J 0,J 0,J 0,J 0,J 0,J 0,J 0,J 0,J 0,J 0].toArray 81 (0,0))] a w8:=by rw[B,t];exact b.j.2.2.alloc _
   obtain⟨w9,bV,C⟩:=tA.fill (cs:=cs) (by rw[X];rfl) qC (λhu=>by have:=b.j.2.2.low xb hu;omega) (λq hq=>by cases hq);have D:=Y (C.Ii List.mem_cons_self);have na:=Y (r.j _ _ C);rw[B,t] at bV;rw[t] at D;clear T k qC tA C r n S Aq B t R;go_wp2_with (first|(refine wpList_load_mid rfl 81 (.tmp 14) rfl g (o+j*37) rfl cs _ i.j underlying81 rfl (by rw[Yo];exact W.j) ?_)|(refine wpList_load_mid rfl 81 (.tmp 7) rfl wr.heap.size 0 rfl cs _ D.j underlying81 rfl (by rw[Yo];exact W.j) ?_));refine na.j.m ?_;rintro e vx ⟨rfl,u⟩;clear bV D na i X;obtain⟨K2,e2⟩:=KE;dsimp only at f s u|-;by_cases y:e2=0
   ·subst y;have lU:Hid (fH di xs Q K2 (j+1)/\bP K2/\aj U w kb mb sb pb qb bb tb [] K2 vx):=⟨by first|exact f.j.1 rfl|exact f.j.1 trivial|exact f.j.1,s.j,u.j.tail⟩
    clear f
    go_wp2
    go_roundw
    case rel=>exact⟨j+1,K2,by go_num,Z,lU⟩
    case measure=>exact Zm
   have e1:(e2 !=0)=true:=by simpa using y
   have l:=Y (f.j.2 y);clear y f;go_wp2_with fail
   all_goals
    go_ret2;exact⟨Zv l.j,by rw[l.j];exact⟨u.j.fin.1,s.j,u.j.fin.2⟩⟩
  obtain rfl:j=N:=Z;have h1:¬(j:Int)<(j:Int):=Z;have l:=Y (b.j.1.fin (by have:=P.j;omega));clear R;go_wp2_with fail
  all_goals
   go_ret2;exact⟨Zv l.j,by rw[l.j];exact⟨b.j.2.2.fin.1,b.j.2.1,b.j.2.2.fin.2⟩⟩
theorem aqt:(prog.info? 152).map (·.size)=some ML.sz:=Zx
theorem anU(h:au U w kb mb sb pb qb bb tb K)(hw:bP K){p:Option Addr}{c:Nat}{xs:List (Int×Int×Int)}(hN:N=xs.length)(hr:lS ML U w p xs)(g:∀x∈xs,af x.1/\af x.2.1)(i:xs=[]):
  Zk 49 #[.slice p N c,.func (.func 50) #[M kb] #[]] w λe w'=>Zr e (.tuple #[O (bf fY K xs 0).2.1,O ((bf fY K xs 0).2.2:Nat)])/\Hid (au U w' kb mb sb pb qb bb tb (bf fY K xs 0).1/\bP (bf fY K xs 0).1/\Zn U w w'):=by
 have⟨Q,f⟩:=Ze (bf fY K xs 0);rw[<-f];have n:Hid (fH fY xs Q K 0/\bP K/\aj U w kb mb sb pb qb bb tb [] K w):=⟨f▸fH.start fY K xs,hw,aj.start h⟩;have q:=Y hr;have r:=Y g;have k:=Y hN;have o:=Y i;have s:(N:Int)<=9223372036854775807:=by have:=hr.n;omega
 have t:=Y (aN.ul h);clear h hw hr g f hN i;go_enter func49,ntmps49;go_wp2;go_loopw [6,7,8,11] (λ_ _ _ d wr=>∃j:Nat,∃a,d=O (j:Int)/\j<=N/\Hid (fH fY xs Q a j/\bP a/\aj U w kb mb sb pb qb bb tb [] a wr)) (λ_ _ _ d _=>N - (RowKit.intOf d).toNat)
 case atStart=>exact⟨0,K,rfl,Z,n⟩
 case round=>
  obtain⟨j,a,rfl,u,b⟩:=hrel;by_cases v:j<N
  ·have l:=k.j;rw[o.j] at l;have y:N=0:=l;omega
  obtain rfl:j=N:=Z;have h1:¬(j:Int)<(j:Int):=Z;have m:=Y (b.j.1.fin (by have:=k.j;omega));go_wp2_with fail;all_goals
   go_ret2;exact⟨Zv m.j,by rw[m.j];exact⟨b.j.2.2.fin.1,b.j.2.1,b.j.2.2.fin.2⟩⟩
end Go.Proofs.YtdjlkahbpdoemaaGreatDoor

import Derived.Test.YtdjlkahbpdoemaaGreatDoorCq23
import Derived.Test.YtdjlkahbpdoemaaGreatDoorCq24
import Derived.RegionDies
set_option maxRecDepth 100000
set_option maxHeartbeats 8000000
set_option linter.unusedVariables false
set_option linter.unusedSimpArgs false
open Go Go.Vx Go.Proofs.Tryz Go.ChangeShapes Go.WideShapes Go.ChangeAt Go.RowKit
namespace Go.Proofs.YtdjlkahbpdoemaaGreatDoor
variable {act:Act}{D:DataW Value}{Q:Exit->Act->World->Prop}{e n root:Int}{G:Int->Nat}{K KE:Kn}{y:Kt}{F F2:List (Nat×Obj)}{ks:List Int}{T T2:List Kt}{B a b bb bm i kb mb pb qb r1 r2 sb tb ub va:Nat}{o2:Obj}{o:Oper}{w w' w1 w2 wv:Z0}{S U V:Z1}
theorem LX(h:T2.map (·.num)=T.map (·.num))(n:Int):da T2 n=da T n:=by
 have e:∀(l:List Kt) (k:Nat),dL (λx=>decide (x.num=n)) l k=dL (λx=>decide (x=n)) (l.map (·.num)) k:=λl=>by
  induction l with
  |nil=>intro k;rfl
  |cons x l a=>intro k;simp only[dL,List.map_cons];rw[a]
 unfold da;rw[e,e,h]
theorem amU{x:Int}(ha:w.cell? (E a 18)=some (J 4294967295))(hb:w.cell? (E b 20)=some (J x))(c):Zk 190 #[c,M a,M b] w λe w'=>Zr e (.bool false)/\Zq w w':=by
 have d:Hid (∀n,Zq w (w.drewN n)):=λn=>(H.refl _ w).drewN n;go_enter func190,ntmps190;go_upto_region 1 with fail
 go_quiet (fail);go_wp2_with fail;all_goals
  go_ret;exact⟨rfl,d.j _⟩
section
variable {s g:Nat}
theorem ai5(h:aq U w kb mb sb pb qb bb tb D ks G K)(hg:g<K.T.length)(hs:s<K.T.length)(o:g≠s)(t:K.T[g].num≠K.T[s].num)(j:K.T[g].num≠ -1/\K.T[s].num≠ -1)(p:K.T[g].dV= -1):Zk 191 #[M kb,.pointer (some ⟨G K.T[g].num,0,none⟩),.pointer (some ⟨G K.T[s].num,0,none⟩)] w λe w'=>Zr e (.tuple #[])/\aq U w' kb mb sb pb qb bb tb D ks G (vH K g s)/\Zn U w w':=by
 have q:w.cell? ⟨G K.T[g].num,35,none⟩=some (.pointer none):=by
  rw[cell_of_row _ _ 35 _ _ (0,0) (h.th hg),(zI G _).2.1,p];rfl
 have f35:=fX (h.th hg) 35;have r:Value.pointer (some ⟨G K.T[s].num,0,none⟩)=lx G K.T[s].num:=by unfold lx;rw[if_neg j.2]
 have c:Value.pointer (some ⟨G K.T[g].num,0,none⟩)=lx G K.T[g].num:=by unfold lx;rw[if_neg j.1]
 have⟨f,k⟩:=h.GB hg 35 (.pointer (some ⟨G K.T[s].num,0,none⟩)) (y:={K.T[g] with dV:=K.T[s].num}) rfl (by rw[r];exact(Hv G _ _ true).1);have⟨w1,d⟩:=Ze (w.setCell ⟨G K.T[g].num,35,none⟩ (.pointer (some ⟨G K.T[s].num,0,none⟩)));rw[<-d] at f k;have l:s<(ba K g {K.T[g] with dV:=K.T[s].num}).T.length:=by rw[km];exact hs
 have e1:(ba K g {K.T[g] with dV:=K.T[s].num}).T[s]=K.T[s]:=List.getElem_set_ne o _;have qg:=f.th l;have m:∃v,w1.cell? ⟨G K.T[s].num,36,none⟩=some v:=by
  rw[e1] at qg;exact⟨_,(cell_of_row _ _ 36 _ _ (0,0) qg).trans (zI G _).2.2.1⟩
 have f36:w1.frozen? ⟨G K.T[s].num,36,none⟩=false:=by rw[e1] at qg;exact fX qg 36
 obtain⟨v36,m⟩:=m;have⟨n,o2⟩:=f.GB l 36 (.pointer (some ⟨G K.T[g].num,0,none⟩)) (y:={K.T[s] with dD:=K.T[g].num}) (by rw[e1]) (by rw[e1,c];exact(Hv G _ _ true).2.1);rw[e1] at n o2;have⟨w2,i⟩:=Ze (w1.setCell ⟨G K.T[s].num,36,none⟩ (.pointer (some ⟨G K.T[g].num,0,none⟩)));rw[<-i] at n o2;have u:Hid (aq U w2 kb mb sb pb qb bb tb D ks G (vH K g s)/\Zn U w w2):=by
  refine⟨?_,k.trans o2⟩;unfold vH;rwa[dQ hg,dQ hs]
 generalize G K.T[g].num=a at q f35 d i|-;generalize G K.T[s].num=b at m f36 d i|-;clear h hg hs o t j p r c f k l e1 qg n o2;go_enter func191,ntmps191;go_upto_region 3 with fail
 rw[<-d];clear d q f35;go_wp2_with fail;rw[<-i]
 all_goals
  go_end0;exact⟨rfl,u.j⟩
end
theorem apl(w):Zk 192 #[.bool false] w λe w'=>Zr e (O 5)/\w'=w:=by
 go_enter func192,ntmps192;go_wp2_with fail;all_goals
  go_ret;exact⟨rfl,rfl⟩
section
variable {s g:Nat}
theorem XK(h:aq U w kb mb sb pb qb bb tb D ks G K)(hg:g<K.T.length)(hs:s<K.T.length)(A:g≠s)(k:da K.T K.T[g].num=some g)(Cd:da K.T K.T[s].num=some s)(ig:af K.T[g].num)(FQ:af K.T[s].num)(h0:K.T[g].num≠ -1/\K.T[s].num≠ -1)(hc:K.T[g].dV= -1)(qM:K.T[s].rg 16=4294967295)(o)(j:o.err=0/\o.wt=false/\o.ask=true/\o.ft=false):Zk 105 #[M kb,.pointer (some ⟨G K.T[s].num,0,none⟩),.pointer (some ⟨G K.T[g].num,0,none⟩),lC o] w λe w'=>Zr e (.tuple #[])/\aq U w' kb mb sb pb qb bb tb D ks G (oE K s g o.m)/\Zn U w w':=by
 rw[show lC o=.agg #[O o.err,O o.peer,J o.m.ak,J o.m.w0,J o.m.w1,J o.m.w2,J o.m.w3,J o.m.aQ,.bool o.wt,.bool o.ask,.bool o.ft] from rfl,j.1,j.2.1,j.2.2.1,j.2.2.2];have⟨d,B⟩:=Ze (kh K g o.m);have⟨f,l⟩:=Ze (vH d g s);have⟨KE,aJ⟩:=Ze (oE K s g o.m);rw[<-aJ];have C:KE=gj f s 5:=by rw[aJ,l,B];rfl
 have R:d.T.length=K.T.length:=by rw[B];exact Ez _ _ _
 have m:∀x,aw d x=if x=g then {aw K g with rg:=qO (aw K g).rg o.m,st:=1} else aw K x:=λx=>by rw[B];exact Ey hg o.m x
 have p:g<d.T.length:=by rw[R];exact hg
 have i:s<d.T.length:=by rw[R];exact hs
 have q:d.T[g]={K.T[g] with rg:=qO K.T[g].rg o.m,st:=1}:=by rw[<-dQ p,m,if_pos rfl,dQ hg]
 have es:d.T[s]=K.T[s]:=by rw[<-dQ i,m,if_neg (λh=>A h.symm),dQ hs]
 have lO:f.T.length=K.T.length:=by rw[l,Qy];exact R
 have RB:s<f.T.length:=by rw[lO];exact hs
 have S:f.T[s].num=K.T[s].num:=by
  rw[<-dQ RB,l,Iu p i,if_pos rfl];show(aw d s).num=_;rw[dQ i,es]
 have nO:f.T.map (·.num)=K.T.map (·.num):=by
  apply List.ext_getElem (by simp[lO]);intro n h1 h2;rw[List.length_map] at h1 h2;rw[List.getElem_map,List.getElem_map,<-dQ h1,<-dQ h2,l,Iu p i];by_cases a1:n=s
  ·rw[if_pos a1,a1];show(aw d s).num=_;rw[m,if_neg (λh=>A h.symm)]
  rw[if_neg a1];by_cases a2:n=g
  ·rw[if_pos a2,a2];show(aw d g).num=_;rw[m,if_pos rfl]
  rw[if_neg a2,m,if_neg a2]
 have fO:da f.T f.T[s].num=some s:=by rw[S];exact(LX nO _).trans Cd
 have⟨w1,ae⟩:=Ze (w.alloc (.cells #[O 0,O o.peer,J o.m.ak,J o.m.w0,J o.m.w1,J o.m.w2,J o.m.w3,J o.m.aQ,.bool false,.bool true,.bool false] 244));have⟨ob,aP⟩:=Ze (w.heap.size);have⟨F,hF⟩:∃F:List (Nat×Obj),F=[(ob,.cells #[O 0,O o.peer,J o.m.ak,J o.m.w0,J o.m.w1,J o.m.w2,J o.m.w3,J o.m.aQ,.bool false,.bool true,.bool false] 244 (0,0))]:=⟨_,rfl⟩;have H1:Hid (ai U w kb mb sb pb qb bb tb D ks G F K w1):=by rw[ae,hF,aP];exact(ai.start h).alloc _
 have T:Hid (∀K' wv,ai U w kb mb sb pb qb bb tb D ks G F K' wv->wv.cell? (E ob 2)=some (J o.m.ak)/\wv.cell? (E ob 3)=some (J o.m.w0)/\wv.cell? (E ob 4)=some (J o.m.w1)/\wv.cell? (E ob 5)=some (J o.m.w2)/\wv.cell? (E ob 6)=some (J o.m.w3)/\wv.cell? (E ob 7)=some (J o.m.aQ)/\wv.cell? (E ob 9)=some (.bool true)/\wv.cell? (E ob 10)=some (.bool false)):=λK' wv h=>by
  have hr:=h.at (b:=ob) (o:=.cells #[O 0,O o.peer,J o.m.ak,J o.m.w0,J o.m.w1,J o.m.w2,J o.m.w3,J o.m.aQ,.bool false,.bool true,.bool false] 244 (0,0)) (by rw[hF];exact List.mem_cons_self);exact⟨Zl hr,Zl hr,Zl hr,Zl hr,Zl hr,Zl hr,Zl hr,Zl hr⟩
 have Dc:Hid (∀wv,ai U w kb mb sb pb qb bb tb D ks G F K wv->Zk 189 #[M kb,.pointer (some ⟨G K.T[g].num,0,none⟩),.agg #[J o.m.ak,J o.m.w0,J o.m.w1,J o.m.w2,J o.m.w3,J o.m.aQ]] wv λe w'=>Zr e (.tuple #[])/\Hid (ai U w kb mb sb pb qb bb tb D ks G F d w')):=λwv h=>h.call (λV h=>by rw[B];exact abw h hg ig k o.m);have W:Hid (∀wv,ai U w kb mb sb pb qb bb tb D ks G F d wv->Zk 191 #[M kb,.pointer (some ⟨G K.T[g].num,0,none⟩),.pointer (some ⟨G K.T[s].num,0,none⟩)] wv λe w'=>Zr e (.tuple #[])/\Hid (ai U w kb mb sb pb qb bb tb D ks G F f w')):=λwv h=>h.call (λV h=>by
  have dN:K.T[g].num≠K.T[s].num:=λe=>by rw[e,Cd] at k;injection k with k;exact A k.symm
  have N:=ai5 h p i A (by rw[q,es];exact dN) (by rw[q,es];exact h0) (by rw[q];exact hc);rw[q,es] at N;rw[l]
  exact N)
 have dh:Hid (∀wv,ai U w kb mb sb pb qb bb tb D ks G F f wv->Zk 61 #[M kb,.pointer (some ⟨G K.T[s].num,0,none⟩),O 5] wv λe w'=>Zr e (.tuple #[])/\Hid (ai U w kb mb sb pb qb bb tb D ks G F KE w')):=λwv h=>h.call (λV h=>by
  have N:=Hk h RB (by rw[S];exact FQ) fO 5;rw[S] at N;rw[C]
  exact N)
 have X:Hid (∀wv,ai U w kb mb sb pb qb bb tb D ks G F d wv->(∃b,wv.cell? ⟨G K.T[s].num,37,none⟩=some (.bool b))/\Zk 190 #[M kb,.pointer (some ⟨G K.T[s].num,0,none⟩),.pointer (some ⟨G K.T[g].num,0,none⟩)] wv λe w'=>Zr e (.bool false)/\Hid (ai U w kb mb sb pb qb bb tb D ks G F d w')):=λwv h=>by
  obtain⟨⟨V,h1,h2,h3⟩,_,_⟩:=id h;have ts:=h3.th i;have c1:=h3.zN i (x:=16) I;have c2:=h3.zN p (x:=18) I;rw[es] at ts c1;rw[q] at c2;rw[qM] at c1;refine⟨⟨_,(cell_of_row _ _ 37 _ _ (0,0) ts).trans (zI G _).2.2.2⟩,?_⟩;refine(amU c1 c2 (M kb)).m ?_;rintro e w' ⟨rfl,j⟩;exact⟨rfl,h.quiet j⟩
 generalize G K.T[g].num=a at Dc W X|-;generalize G K.T[s].num=b at W X dh|-;clear h hg hs A k Cd ig FQ h0 hc qM j B l aJ C R m p i q es lO RB S nO fO hF;obtain⟨l0,l1,r,t,u,v,y,z⟩:=T.j _ _ H1.j;have Dd:=Y (Dc.j _ H1.j);go_enter func105,ntmps105;go_upto_region 1 with fail
 rw[<-ae,<-aP];clear ae aP;go_wp2_with fail;refine Dd.j.m ?_;rintro e w2 ⟨rfl,H2⟩;clear l0 l1 r t u v y z Dd H1 Dc;obtain⟨l0,l1,r,t,u,v,y,z⟩:=T.j _ _ H2.j;obtain⟨⟨gb,jj⟩,OR⟩:=X.j _ H2.j;have OR:=Y OR;go_upto_region 2 with fail
 go_cut [27] from 13 to 33 (λc wx=>c=.bool false/\Hid (ai U w kb mb sb pb qb bb tb D ks G F d wx))
 case first=>
  cases gb with
  |true=>
   go_wp2_with fail;refine OR.j.m ?_;rintro e w3 ⟨rfl,P⟩
   go_wp2
   go_meet
   exact⟨rfl,P⟩
  |false=>
   go_wp2
   go_meet;exact⟨rfl,H2⟩
 case rest=>
  obtain⟨rfl,P⟩:=hcut;clear l0 l1 r t u v y z jj OR H2 X;obtain⟨l0,l1,r,t,u,v,y,z⟩:=T.j _ _ P.j;have Q:=Y (W.j _ P.j);go_wp2_with fail;refine Q.j.m ?_;rintro e w4 ⟨rfl,H4⟩;clear l0 l1 r t u v y z Q P W;obtain⟨l0,l1,r,t,u,v,y,z⟩:=T.j _ _ H4.j;have i7:=Y (dh.j _ H4.j);go_wp2_with fail;refine(apl _).e1 ?_;go_wp2_with fail;refine i7.j.m ?_;rintro e w5 ⟨rfl,H5⟩;go_wp2_with fail
  all_goals
   go_end0;exact⟨rfl,H5.j.fin⟩
end
structure bI(w:Z0)(F:List (Nat×Obj))(wv:Z0):Prop where
 o:Zq w wv
 f:∀p∈F,w.heap.size<=p.1/\wv.heap[p.1]?=some p.2
theorem bI.start(w):bI w [] w:=⟨H.refl _ _,λp hp=>by cases hp⟩
theorem bI.quiet(h:bI w F wv)(a:Zq wv w2):bI w F w2:=⟨h.o.trans a,λp hp=>⟨(h.f p hp).1,H.keep a (h.f p hp).2 id⟩⟩
theorem bI.drew(h:bI w F wv):bI w F wv.drew:=h.quiet ((H.refl _ _).drew)
theorem bI.alloc(h:bI w F wv)(o):bI w ((wv.heap.size,o)::F) (wv.alloc o):=by
 have a:Zq wv (wv.alloc o):=(H.refl _ wv).alloc o;refine⟨h.o.trans a,λp hp=>?_⟩;rcases List.mem_cons.1 hp with rfl|hp
 ·exact⟨h.o.size,heap_alloc_last wv o⟩
 exact⟨(h.f p hp).1,H.keep a (h.f p hp).2 id⟩
theorem bI.at(h:bI w F wv){o:Obj}(hm:(b,o)∈F):wv.heap[b]?=some o:=(h.f _ hm).2
theorem bI.rh{o:Obj}(h:bI w ((b,o)::F) wv)(c:H (λk=>k=b) wv w2)(hb:w2.heap[b]?=some o2)(d:∀p∈F,p.1≠b):bI w ((b,o2)::F) w2:=by
 refine⟨h.o.beyond c (λk hk=>by subst hk;exact(h.f _ List.mem_cons_self).1),λq a=>?_⟩;rcases List.mem_cons.1 a with rfl|a
 ·exact⟨(h.f (b,o) List.mem_cons_self).1,hb⟩
 exact⟨(h.f q (List.mem_cons_of_mem _ a)).1,H.keep c (h.f q (List.mem_cons_of_mem _ a)).2 (d q a)⟩
theorem bI.swap{a b:Nat×Obj}(h:bI w (a::b::F) wv):bI w (b::a::F) wv:=⟨h.o,λp hp=>h.f p (by simp only[List.mem_cons] at hp|-;rcases hp with h|h|h;exact Or.inr (Or.inl h);exact Or.inl h;exact Or.inr (Or.inr h))⟩
theorem Ft(h:bI w F wv)(hb:b=wv.heap.size):∀p∈F,p.1≠b:=λp hp he=>by have:=aB (h.f p hp).2;omega
theorem bI.l9(h:bI w ((ub,.cells jd.toArray 84 (0,0))::F) wv)(u)(a:∀p∈F,p.1≠ub):bI w ((ub,.cells (bj u).toArray 84 (0,0))::F) (wv.setCells ub 0 (bj u)):=by
 have⟨h1,b⟩:=vB (bj u) [] jd wv rfl (h.at List.mem_cons_self);exact h.rh b h1 a
theorem bI.PJ(h:bI w ((ub,.cells p4.toArray 45 (0,0))::F) wv)(u)(a:∀p∈F,p.1≠ub):bI w ((ub,.cells (eL u).toArray 45 (0,0))::F) (wv.setCells ub 0 (eL u)):=by
 have⟨h1,b⟩:=vB (eL u) [] p4 wv rfl (h.at List.mem_cons_self);exact h.rh b h1 a
theorem alB:(prog.info? 45).map (·.size)=some 2:=Zx
theorem PI{K:Act->World->Prop}(x y)(b:o.op=.store 45 x y)(c:o.dst=none){u:Sl}(d:act.eval x=M ub)(hy:act.eval y=.agg (eL u).toArray)(a:w.heap[ub]?=some (.cells p4.toArray 45 (0,0)))(h:K act (w.setCells ub 0 (eL u))):Oper.wp prog o act w K Q:=by
 have ht:w.there ub 0 (eL u).toArray.size:=λj e=>by
  refine⟨?_,fX a _⟩;rw[Nat.zero_add,cell_of_row _ _ j _ _ (0,0) a,List.getElem?_toArray,List.getElem?_eq_getElem (show j<p4.length from e)];rfl
 refine wp_store_mid 45 x y b ub 0 _ d hy ht (by rw[alB];rfl) (all_oneCell_toArray (λv hv=>dG.one u v hv)) ?_;rwa[c]
section
variable {s:Sl}
theorem bI.sl(h:bI w F wv)(hm:(b,.cells (eL s).toArray 45 (0,0))∈F):wv.cell? (E b 0)=some (O s.1)/\wv.cell? (E b 1)=some (O s.2):=⟨(cell_of_row _ _ 0 _ _ (0,0) (h.at hm)).trans rfl,(cell_of_row _ _ 1 _ _ (0,0) (h.at hm)).trans rfl⟩
end
section
variable {c:Cp}
theorem bI.cp(h:bI w F wv)(hm:(b,.cells (bj c).toArray 84 (0,0))∈F):wv.cell? (E b 0)=some (O c.kind)/\wv.cell? (E b 1)=some (O c.num)/\wv.cell? (E b 2)=some (O c.rights)/\wv.cell? (E b 3)=some (J c.bh)/\wv.cell? (E b 4)=some (J c.guard)/\wv.cell? (E b 5)=some (O c.aC)/\wv.cell? (E b 6)=some (O c.root)/\wv.cell? (E b 7)=some (J c.va):=⟨(cell_of_row _ _ 0 _ _ (0,0) (h.at hm)).trans rfl,(cell_of_row _ _ 1 _ _ (0,0) (h.at hm)).trans rfl,(cell_of_row _ _ 2 _ _ (0,0) (h.at hm)).trans rfl,(cell_of_row _ _ 3 _ _ (0,0) (h.at hm)).trans rfl,(cell_of_row _ _ 4 _ _ (0,0) (h.at hm)).trans rfl,(cell_of_row _ _ 5 _ _ (0,0) (h.at hm)).trans rfl,(cell_of_row _ _ 6 _ _ (0,0) (h.at hm)).trans rfl,(cell_of_row _ _ 7 _ _ (0,0) (h.at hm)).trans rfl⟩
end
section
variable {g:Nat}
theorem PT(hn:w.cell? (E g 0)=some (O n))(x):Zk 56 #[M g,O x] w λe w'=>Zr e (.agg #[O n,O x])/\Zq w w':=by
 have a:=World.block_lt_of_cell? w _ hn;go_enter func56,ntmps56;go_wp2_with fail;refine bodyPost_ret (v:=.agg #[O n,O x]) ?_ rfl ⟨rfl,?_⟩
 ·simp[results,results56,go_sem]
 exact(H.refl _ w).alloc _
structure GL(w:Z0)(kb sb g:Nat)(n:Int):Prop where
 k:w.cell? (E kb 1)=some (M sb)
 n:w.cell? (E g 0)=some (O n)
theorem GL.at(h:GL w kb sb g n)(hr:bI w F wv):GL wv kb sb g n:=⟨(hr.o.cell (p:=E kb 1) (World.block_lt_of_cell? w _ h.k) id).trans h.k,(hr.o.cell (p:=E g 0) (World.block_lt_of_cell? w _ h.n) id).trans h.n⟩
end
section
variable {c:Cp}{s:Sl}
def G8(w:Z0)(sb:Nat)(s:Sl)(c:Cp)(e:Int):Prop:=∀wv,Zq w wv->Zk 55 #[M sb,.agg #[O s.1,O s.2]] wv λx w'=>x=.returned (.tuple #[bz c,O e])/\Zq wv w'
def Oq(w:Z0)(sb:Nat)(c:Cp)(a:Nat)(s:Sl):Prop:=∀wv,Zq w wv->Zk 302 #[M sb,.agg #[O c.kind,O c.num,O c.rights,J c.bh,J c.guard,O c.aC,O c.root,J c.va],J (a:Int),O 32] wv λx w'=>x=.returned (.tuple #[dU s,O 0])/\Zq wv w'
end
section
variable {g:Nat}{c:Cp}{s:Sl}
theorem apD(hk:GL w kb sb g n)(hg:G8 w sb (n,0) c 0)(hl:Oq w sb c a s):Zk 242 #[M kb,M g,J (a:Int)] w λe w'=>Zr e (.tuple #[dU s,O 0])/\Zq w w':=by
 have⟨w1,N⟩:=Ze (w.alloc (.cells #[O 0,O 0] 45));have⟨rb,P⟩:=Ze (w.heap.size);have⟨F,W⟩:∃F:List (Nat×Obj),F=[(rb,.cells p4.toArray 45 (0,0))]:=⟨_,rfl⟩;have D:Hid (bI w F w1):=by rw[N,W,P];exact(bI.start w).alloc _
 have z:=Y D.j.drew;have d:=Y (λF wv(h:bI w F wv)=>(hk.at h).k);have i:=Y (d.j _ _ z.j);have Q:Hid (∀F wv,bI w F wv->Zk 56 #[M g,O 0] wv λe w'=>Zr e (.agg #[O n,O 0])/\Hid (bI w F w')):=λF wv h=>by
  refine(PT (hk.at h).n 0).m ?_;rintro e w' ⟨rfl,B⟩;exact⟨rfl,h.quiet B⟩
 have G:Hid (∀F wv,bI w F wv->Zk 55 #[M sb,.agg #[O n,O 0]] wv λe w'=>Zr e (.tuple #[bz c,O 0])/\Hid (bI w F w')):=λF wv h=>by
  refine(hg wv h.o).m ?_;rintro e w' ⟨rfl,B⟩;exact⟨rfl,h.quiet B⟩
 have fJ:Hid (∀F wv,bI w F wv->Zk 302 #[M sb,.agg #[O c.kind,O c.num,O c.rights,J c.bh,J c.guard,O c.aC,O c.root,J c.va],J (a:Int),O 32] wv λe w'=>Zr e (.tuple #[dU s,O 0])/\Hid (bI w F w')):=λF wv h=>by
  refine(hl wv h.o).m ?_;rintro e w' ⟨rfl,B⟩;exact⟨rfl,h.quiet B⟩
 go_enter func242,ntmps242;go_upto_region 1 with fail
 rw[<-N,<-P];clear N P;go_cut [8,9] from 10 to 20 (λc8 c9 wx=>∃ub,c8=M ub/\c9=O 0/\Hid (bI w ((ub,.cells (bj c).toArray 84 (0,0))::F) wx)/\Hid (∀p∈F,p.1≠ub))
 case first=>
  refine lY (S:=(λwv=>wv.cell? (E kb 1)=some (M sb))) Zx ?_;simp only[List.size_toArray,List.length_cons,List.length_nil,Nat.zero_add,Nat.reduceAdd];refine Zt 0 i.j ?_;refine Zt 1 i.j ?_;refine Zt 2 i.j ?_;refine Zt 3 i.j ?_;refine Zt 4 i.j ?_;refine wpAnyH_ready (rs:=[5,10]) Zx (by simp) ?_;refine(AllReadyH.cons Zg (λK b=>?_) (AllReadyH.cons Zg (λK b=>?_) AllReadyH.nil))
  ·as_aux_lemma=>
    refine dc rfl 56 #[Operand.tmp 15,Operand.const (Value.int IntKind.i64 0)] #[106,3] rfl #[M g,O 0] (by first|rfl|simp[Act.eval,go_sem]) (by simp[go_sem]) (Q.j _ _ z.j) ?_;rintro e A ⟨rfl,k⟩;have y:=Y (d.j _ _ k.j);refine⟨_,rfl,?_⟩;refine Zb b y.j ?_;refine wpAnyH_ready (rs:=[6,10]) Zx (by simp) ?_;refine(AllReadyH.cons Zg (λK b=>?_) (AllReadyH.cons Zg (λK b=>?_) AllReadyH.nil))
    ·as_aux_lemma=>
      refine dc rfl 55 #[Operand.tmp 14,Operand.tmp 16] #[92,45] rfl #[M sb,.agg #[O n,O 0]] (by first|rfl|simp[Act.eval,go_sem]) (by simp[go_sem]) (G.j _ _ k.j) ?_;rintro e C ⟨rfl,j⟩;have l:=Y (d.j _ _ j.j);refine⟨_,rfl,?_⟩;refine Zb b l.j ?_;refine Zt 7 l.j ?_;refine Zt 8 l.j ?_;refine Zt 9 l.j ?_;refine Zy 10 (λK b=>?_);go_simp;have⟨ub,f⟩:=Ze (C.heap.size);have⟨R,T⟩:=Ze (C.alloc (.cells #[O 0,O 0,O 0,J 0,J 0,O 0,O 0,J 0] 84));have m:Hid (bI w ((ub,.cells jd.toArray 84 (0,0))::F) R):=by rw[T,f];exact(j.j.alloc _)
      have r:=Y (Ft j.j f);have q:=Y (d.j _ _ m.j);rw[<-T,<-f];clear T f;refine Zb b q.j ?_;refine Zy 11 (λK b=>?_);refine nx (.tmp 8) (.tmp 18) rfl rfl (u:=c) (ub:=ub) (by simp[Act.eval]) (by simp[Act.eval,bz,bj]) (m.j.at List.mem_cons_self) ?_;have t:=Y (m.j.l9 c r.j);have x:=Y (d.j _ _ t.j);refine Zb b x.j ?_;refine Zt 12 x.j ?_;refine wpAnyH_done Zx ?_ _
      go_wp2
      go_meet;exact⟨_,rfl,rfl,t,r⟩
    as_aux_lemma=>
     go_simp;obtain⟨ub,f⟩:=Ze (A.heap.size);obtain⟨C,U⟩:=Ze (A.alloc (.cells #[O 0,O 0,O 0,J 0,J 0,O 0,O 0,J 0] 84));have j:Hid (bI w ((ub,.cells jd.toArray 84 (0,0))::F) C):=by rw[U,f];exact(k.j.alloc _)
     have r:=Y (Ft k.j f);have l:=Y (d.j _ _ j.j);rw[<-U,<-f];clear U f;refine Zb b l.j ?_;refine Zy 6 (λK b=>?_);refine dc rfl 55 #[Operand.tmp 14,Operand.tmp 16] #[92,45] rfl #[M sb,.agg #[O n,O 0]] (by first|rfl|simp[Act.eval,go_sem]) (by simp[go_sem]) (G.j _ _ j.j) ?_;rintro e R ⟨rfl,m⟩;have q:=Y (d.j _ _ m.j);refine⟨_,rfl,?_⟩;refine Zb b q.j ?_;refine Zt 7 q.j ?_;refine Zt 8 q.j ?_;refine Zt 9 q.j ?_;refine Zy 11 (λK b=>?_);refine nx (.tmp 8) (.tmp 18) rfl rfl (u:=c) (ub:=ub) (by simp[Act.eval]) (by simp[Act.eval,bz,bj]) (m.j.at List.mem_cons_self) ?_;have t:=Y (m.j.l9 c r.j);have x:=Y (d.j _ _ t.j);refine Zb b x.j ?_;refine Zt 12 x.j ?_;refine wpAnyH_done Zx ?_ _
     go_wp2
     go_meet;exact⟨_,rfl,rfl,t,r⟩
  as_aux_lemma=>
   go_simp;obtain⟨ub,f⟩:=Ze (w1.heap.size);obtain⟨A,V⟩:=Ze ((w1.alloc (.cells #[O 0,O 0,O 0,J 0,J 0,O 0,O 0,J 0] 84)).drew);have k:Hid (bI w ((ub,.cells jd.toArray 84 (0,0))::F) A):=by rw[V,f];exact(D.j.alloc _).drew
   have r:=Y (Ft D.j f);have y:=Y (d.j _ _ k.j);rw[<-V,<-f];clear V f;refine Zb b y.j ?_;refine Zy 5 (λK b=>?_);refine dc rfl 56 #[Operand.tmp 15,Operand.const (Value.int IntKind.i64 0)] #[106,3] rfl #[M g,O 0] (by first|rfl|simp[Act.eval,go_sem]) (by simp[go_sem]) (Q.j _ _ k.j) ?_;rintro e C ⟨rfl,j⟩;have l:=Y (d.j _ _ j.j);refine⟨_,rfl,?_⟩;refine Zb b l.j ?_;refine Zy 6 (λK b=>?_);refine dc rfl 55 #[Operand.tmp 14,Operand.tmp 16] #[92,45] rfl #[M sb,.agg #[O n,O 0]] (by first|rfl|simp[Act.eval,go_sem]) (by simp[go_sem]) (G.j _ _ j.j) ?_;rintro e R ⟨rfl,m⟩;have q:=Y (d.j _ _ m.j);refine⟨_,rfl,?_⟩;refine Zb b q.j ?_;refine Zt 7 q.j ?_;refine Zt 8 q.j ?_;refine Zt 9 q.j ?_;refine Zy 11 (λK b=>?_);refine nx (.tmp 8) (.tmp 18) rfl rfl (u:=c) (ub:=ub) (by simp[Act.eval]) (by simp[Act.eval,bz,bj]) (m.j.at List.mem_cons_self) ?_;have t:=Y (m.j.l9 c r.j);have x:=Y (d.j _ _ t.j);refine Zb b x.j ?_;refine Zt 12 x.j ?_;refine wpAnyH_done Zx ?_ _
   go_wp2
   go_meet;exact⟨_,rfl,rfl,t,r⟩
 case rest=>
  obtain⟨ub,rfl,rfl,X,EW⟩:=hcut;clear i z D Q G;obtain⟨l0,l1,l2,l3,l4,l5,l6,l7⟩:=X.j.cp List.mem_cons_self;subst W;have z:=Y X.j.swap.drew
  have mu:Hid (∀p∈[((ub,.cells (bj c).toArray 84 (0,0)):Nat×Obj)],p.1≠rb):=λp hp he=>by
   rw[List.mem_singleton] at hp;subst hp;exact EW.j _ List.mem_cons_self he.symm
  replace d:Hid (∀o wv,bI w [(rb,o),(ub,.cells (bj c).toArray 84 (0,0))] wv->Zc wv kb 1 (M sb)/\Zc wv ub 0 (O c.kind)/\Zc wv ub 1 (O c.num)/\Zc wv ub 2 (O c.rights)/\Zc wv ub 3 (J c.bh)/\Zc wv ub 4 (J c.guard)/\Zc wv ub 5 (O c.aC)/\Zc wv ub 6 (O c.root)/\Zc wv ub 7 (J c.va)):=λo wv h=>⟨d.j _ _ h,h.cp (List.mem_cons_of_mem _ List.mem_cons_self)⟩
  have i:=Y (d.j _ _ z.j);clear l0 l1 l2 l3 l4 l5 l6 l7;go_upto_region 4 with fail
  refine lY (S:=(λwv=>wv.cell? (E kb 1)=some (M sb)/\wv.cell? (E ub 0)=some (O c.kind)/\wv.cell? (E ub 1)=some (O c.num)/\wv.cell? (E ub 2)=some (O c.rights)/\wv.cell? (E ub 3)=some (J c.bh)/\wv.cell? (E ub 4)=some (J c.guard)/\wv.cell? (E ub 5)=some (O c.aC)/\wv.cell? (E ub 6)=some (O c.root)/\wv.cell? (E ub 7)=some (J c.va))) Zx ?_;simp only[List.size_toArray,List.length_cons,List.length_nil,Nat.zero_add,Nat.reduceAdd];refine Zt 0 i.j ?_;refine Zt 1 i.j ?_;refine Zt 2 i.j ?_;refine Zt 3 i.j ?_;refine Zt 4 i.j ?_;refine Zt 5 i.j ?_;refine Zy 6 (λK b=>?_);refine dc rfl 302 #[Operand.tmp 27,Operand.tmp 28,Operand.tmp 29,Operand.const (Value.int IntKind.i64 32)] #[92,84,27,3] rfl #[M sb,.agg #[O c.kind,O c.num,O c.rights,J c.bh,J c.guard,O c.aC,O c.root,J c.va],J (a:Int),O 32] (by first|rfl|simp[Act.eval,go_sem]) (by simp[go_sem]) (fJ.j _ _ z.j) ?_;rintro e A ⟨rfl,k⟩;have y:=Y (d.j _ _ k.j);refine⟨_,rfl,?_⟩;refine Zb b y.j ?_;refine Zt 7 y.j ?_;refine Zt 8 y.j ?_;refine Zy 9 (λK b=>?_);refine PI (.tmp 6) (.tmp 31) rfl rfl (u:=s) (ub:=rb) (by simp[Act.eval]) (by simp[Act.eval,dU,eL]) (k.j.at List.mem_cons_self) ?_;have j:=Y (k.j.PJ s mu.j);have l:=Y (d.j _ _ j.j);refine Zb b l.j ?_;refine Zt 10 l.j ?_;refine wpAnyH_done Zx ?_ _;obtain⟨z0,z1⟩:=j.j.sl (s:=s) List.mem_cons_self;have HO:=Y j.j.o;generalize A.setCells rb 0 (eL s)=w9 at z0 z1 HO;go_wp2_with fail;refine bodyPost_ret (v:=.tuple #[dU s,O 0]) ?_ rfl ⟨rfl,HO.j⟩;simp[results,results242,go_sem,dU,z0,z1]
end
theorem bI.sub(h:bI w F wv)(hs:∀p∈F2,p∈F):bI w F2 wv:=⟨h.o,λp hp=>h.f p (hs p hp)⟩
section
variable {c:Cp}{s:Sl}
theorem U8(h:bI w [(r1,.cells (eL s).toArray 45 (0,0)),(r2,.cells (bj c).toArray 84 (0,0))] wv):(wv.cell? (E r1 0)=some (O s.1)/\wv.cell? (E r1 1)=some (O s.2))/\(wv.cell? (E r2 0)=some (O c.kind)/\wv.cell? (E r2 1)=some (O c.num)/\wv.cell? (E r2 2)=some (O c.rights)/\wv.cell? (E r2 3)=some (J c.bh)/\wv.cell? (E r2 4)=some (J c.guard)/\wv.cell? (E r2 5)=some (O c.aC)/\wv.cell? (E r2 6)=some (O c.root)/\wv.cell? (E r2 7)=some (J c.va)):=⟨h.sl List.mem_cons_self,h.cp (List.mem_cons_of_mem _ List.mem_cons_self)⟩
end
section
variable {g:Nat}{c c1:Cp}{s:Sl}
theorem aiZ(hk:GL w kb sb g n)(hg:G8 w sb (n,0) c 0)(hl:Oq w sb c a s)(fv:G8 w sb s c1 0):Zk 251 #[M kb,M g,J (a:Int)] w λe w'=>Zr e (.tuple #[dU s,bz c1,O 0])/\Zq w w':=by
 have⟨w1,N⟩:=Ze ((w.alloc (.cells #[O 0,O 0] 45)).alloc (.cells #[O 0,O 0,O 0,J 0,J 0,O 0,O 0,J 0] 84));have⟨r1,dM⟩:=Ze (w.heap.size);have⟨r2,fN⟩:=Ze (w.heap.size+1);have H1:Hid (bI w [(r1,.cells p4.toArray 45 (0,0)),(r2,.cells jd.toArray 84 (0,0))] w1):=by
  have h9:=(((bI.start w).alloc (.cells #[O 0,O 0] 45 (0,0))).alloc (.cells #[O 0,O 0,O 0,J 0,J 0,O 0,O 0,J 0] 84 (0,0))).swap;rw[show(w.alloc (.cells #[O 0,O 0] 45 (0,0))).heap.size=w.heap.size+1 by simp] at h9;rwa[N,dM,fN]
 have KY:Hid (r1≠r2):=by show r1≠r2;omega
 have Lq:=Y (λF wv(h:bI w F wv)=>(hk.at h).k);have O2:Hid (∀F wv,bI w F wv->Zk 242 #[M kb,M g,J (a:Int)] wv λe w'=>Zr e (.tuple #[.agg #[O s.1,O s.2],O 0])/\Hid (bI w F w')):=λF wv h=>by
  refine(apD (hk.at h) (λy P=>hg y (h.o.trans P)) (λy P=>hl y (h.o.trans P))).m ?_;rintro e w' ⟨rfl,Q⟩;exact⟨rfl,h.quiet Q⟩
 have R:Hid (∀F wv,bI w F wv->Zk 55 #[M sb,.agg #[O s.1,O s.2]] wv λe w'=>Zr e (.tuple #[bz c1,O 0])/\Hid (bI w F w')):=λF wv h=>by
  refine(fv wv h.o).m ?_;rintro e w' ⟨rfl,Q⟩;exact⟨rfl,h.quiet Q⟩
 have Dd:=Y (O2.j _ _ H1.j);go_enter func251,ntmps251;go_upto_region 1 with fail
 rw[<-N,<-fN,<-dM];clear N dM fN;go_wp2_with fail;refine Dd.j.m ?_;rintro e w2 ⟨rfl,T⟩;have⟨w3,U⟩:=Ze (w2.alloc (.cells #[O s.1,O s.2] 45));have⟨f,C⟩:=Ze (w2.heap.size);have tT:=Y (Ft T.j C);have⟨F,V⟩:∃F:List (Nat×Obj),F=[(r1,.cells p4.toArray 45 (0,0)),(r2,.cells jd.toArray 84 (0,0)),(f,.cells (eL s).toArray 45 (0,0))]:=⟨_,rfl⟩;have D:Hid (bI w F w3):=by
  rw[U,V,C];exact(T.j.alloc (.cells #[O s.1,O s.2] 45 (0,0))).sub (λp hp=>by simp only[List.mem_cons,List.not_mem_nil,or_false] at hp|-;rcases hp with h|h|h;exact Or.inr (Or.inl h);exact Or.inr (Or.inr h);exact Or.inl h)
 go_upto_region 4 with fail
 rw[<-U,<-C];clear U C T;have x:=Y D.j.drew;have i:Hid (∀F2 wv,bI w (F2++F) wv->Zc wv kb 1 (M sb)/\Zc wv f 0 (O s.1)/\Zc wv f 1 (O s.2)):=λF2 wv h=>⟨Lq.j _ _ h,h.sl (s:=s) (b:=f) (List.mem_append_right _ (by rw[V];exact List.mem_cons_of_mem _ (List.mem_cons_of_mem _ List.mem_cons_self)))⟩;have k:=Y (i.j [] _ x.j);go_cut [10,11] from 24 to 33 (λCx J3 y=>∃ub,Cx=O 0/\J3=M ub/\Hid (bI w ((ub,.cells (bj c1).toArray 84 (0,0))::F) y)/\Hid (∀p∈F,p.1≠ub))
 case first=>
  refine lY (S:=(λwv=>wv.cell? (E kb 1)=some (M sb)/\wv.cell? (E f 0)=some (O s.1)/\wv.cell? (E f 1)=some (O s.2))) Zx ?_;simp only[List.size_toArray,List.length_cons,List.length_nil,Nat.zero_add,Nat.reduceAdd];refine Zt 0 k.j ?_;refine Zt 1 k.j ?_;refine Zt 2 k.j ?_;refine Zt 3 k.j ?_;refine Zt 4 k.j ?_;refine wpAnyH_ready (rs:=[5,9]) Zx (by simp) ?_;refine(AllReadyH.cons Zg (λK d=>?_) (AllReadyH.cons Zg (λK d=>?_) AllReadyH.nil))
  ·as_aux_lemma=>
    refine dc rfl 55 #[Operand.tmp 28,Operand.tmp 29] #[92,45] rfl #[M sb,.agg #[O s.1,O s.2]] (by first|rfl|simp[Act.eval,go_sem]) (by simp[go_sem]) (R.j _ _ x.j) ?_;rintro e G ⟨rfl,l⟩;have r:=Y (i.j [] _ l.j);refine⟨_,rfl,?_⟩;refine Zb d r.j ?_;refine Zt 6 r.j ?_;refine Zt 7 r.j ?_;refine Zt 8 r.j ?_;refine Zy 9 (λK d=>?_);go_simp;have⟨ub,t⟩:=Ze (G.heap.size);obtain⟨gh,W⟩:=Ze (G.alloc (.cells #[O 0,O 0,O 0,J 0,J 0,O 0,O 0,J 0] 84));have j:Hid (bI w ((ub,.cells jd.toArray 84 (0,0))::F) gh):=by rw[W,t];exact(l.j.alloc _)
    have z:=Y (Ft l.j t);have m:=Y (i.j [_] _ j.j);rw[<-W,<-t];clear W t;refine Zb d m.j ?_;refine Zy 10 (λK d=>?_);refine nx (.tmp 11) (.tmp 31) rfl rfl (u:=c1) (ub:=ub) (by simp[Act.eval]) (by simp[Act.eval,bz,bj]) (j.j.at List.mem_cons_self) ?_;have A:=Y (j.j.l9 c1 z.j);have B:=Y (i.j [_] _ A.j);refine Zb d B.j ?_;refine Zt 11 B.j ?_;refine wpAnyH_done Zx ?_ _
    go_wp2
    go_meet;exact⟨_,rfl,rfl,A,z⟩
  as_aux_lemma=>
   go_simp;obtain⟨ub,t⟩:=Ze (w3.heap.size);obtain⟨G,X⟩:=Ze ((w3.alloc (.cells #[O 0,O 0,O 0,J 0,J 0,O 0,O 0,J 0] 84)).drew);have l:Hid (bI w ((ub,.cells jd.toArray 84 (0,0))::F) G):=by rw[X,t];exact(D.j.alloc _).drew
   have z:=Y (Ft D.j t);have r:=Y (i.j [_] _ l.j);rw[<-X,<-t];clear X t;refine Zb d r.j ?_;refine Zy 5 (λK d=>?_);refine dc rfl 55 #[Operand.tmp 28,Operand.tmp 29] #[92,45] rfl #[M sb,.agg #[O s.1,O s.2]] (by first|rfl|simp[Act.eval,go_sem]) (by simp[go_sem]) (R.j _ _ l.j) ?_;rintro e gh ⟨rfl,j⟩;have m:=Y (i.j [_] _ j.j);refine⟨_,rfl,?_⟩;refine Zb d m.j ?_;refine Zt 6 m.j ?_;refine Zt 7 m.j ?_;refine Zt 8 m.j ?_;refine Zy 10 (λK d=>?_);refine nx (.tmp 11) (.tmp 31) rfl rfl (u:=c1) (ub:=ub) (by simp[Act.eval]) (by simp[Act.eval,bz,bj]) (j.j.at List.mem_cons_self) ?_;have A:=Y (j.j.l9 c1 z.j);have B:=Y (i.j [_] _ A.j);refine Zb d B.j ?_;refine Zt 11 B.j ?_;refine wpAnyH_done Zx ?_ _
   go_wp2
   go_meet;exact⟨_,rfl,rfl,A,z⟩
 case rest=>
  obtain⟨ub,rfl,rfl,H4,EW⟩:=hcut;clear k x D R i;subst V;have x:Hid (bI w [(r1,.cells p4.toArray 45 (0,0)),(r2,.cells jd.toArray 84 (0,0)),(f,.cells (eL s).toArray 45 (0,0)),(ub,.cells (bj c1).toArray 84 (0,0))] wc.drew):=H4.j.drew.sub (λp hp=>by simp only[List.mem_cons,List.not_mem_nil,or_false] at hp|-;rcases hp with h|h|h|h;exact Or.inr (Or.inl h);exact Or.inr (Or.inr (Or.inl h));exact Or.inr (Or.inr (Or.inr h));exact Or.inl h)
  have Uj:Hid (∀o,∀p∈[((r2,o):Nat×Obj),(f,.cells (eL s).toArray 45 (0,0)),(ub,.cells (bj c1).toArray 84 (0,0))],p.1≠r1):=λo p hp he=>by
   simp only[List.mem_cons,List.not_mem_nil,or_false] at hp;rcases hp with rfl|rfl|rfl
   ·exact KY.j he.symm
   ·exact tT.j _ List.mem_cons_self he.symm
   exact EW.j _ List.mem_cons_self he.symm
  have Lj:Hid (∀o,∀p∈[((r1,o):Nat×Obj),(f,.cells (eL s).toArray 45 (0,0)),(ub,.cells (bj c1).toArray 84 (0,0))],p.1≠r2):=λo p hp he=>by
   simp only[List.mem_cons,List.not_mem_nil,or_false] at hp;rcases hp with rfl|rfl|rfl
   ·exact KY.j he
   ·exact tT.j _ (List.mem_cons_of_mem _ List.mem_cons_self) he.symm
   exact EW.j _ (List.mem_cons_of_mem _ List.mem_cons_self) he.symm
  have i:Hid (∀(q:Obj×Obj) wv,bI w [(r1,q.1),(r2,q.2),(f,.cells (eL s).toArray 45 (0,0)),(ub,.cells (bj c1).toArray 84 (0,0))] wv->(Zc wv f 0 (O s.1)/\Zc wv f 1 (O s.2))/\(Zc wv ub 0 (O c1.kind)/\Zc wv ub 1 (O c1.num)/\Zc wv ub 2 (O c1.rights)/\Zc wv ub 3 (J c1.bh)/\Zc wv ub 4 (J c1.guard)/\Zc wv ub 5 (O c1.aC)/\Zc wv ub 6 (O c1.root)/\Zc wv ub 7 (J c1.va))):=λq wv h=>⟨h.sl (s:=s) (by simp),h.cp (c:=c1) (by simp)⟩
  have k:=Y (i.j (_,_) _ x.j);go_upto_region 5 with fail
  refine lY (S:=(λwv=>(wv.cell? (E f 0)=some (O s.1)/\wv.cell? (E f 1)=some (O s.2))/\(wv.cell? (E ub 0)=some (O c1.kind)/\wv.cell? (E ub 1)=some (O c1.num)/\wv.cell? (E ub 2)=some (O c1.rights)/\wv.cell? (E ub 3)=some (J c1.bh)/\wv.cell? (E ub 4)=some (J c1.guard)/\wv.cell? (E ub 5)=some (O c1.aC)/\wv.cell? (E ub 6)=some (O c1.root)/\wv.cell? (E ub 7)=some (J c1.va)))) Zx ?_;simp only[List.size_toArray,List.length_cons,List.length_nil,Nat.zero_add,Nat.reduceAdd];refine Zt 0 k.j ?_;refine Zt 1 k.j ?_;refine Zt 2 k.j ?_;refine Zy 3 (λK d=>?_);refine PI (.tmp 6) (.tmp 33) rfl rfl (u:=s) (ub:=r1) (by simp[Act.eval]) (by simp[Act.eval,dU,eL]) (x.j.at List.mem_cons_self) ?_;have l:=Y (x.j.PJ s (Uj.j _));have r:=Y (i.j (_,_) _ l.j);refine Zb d r.j ?_;refine Zy 4 (λK d=>?_);refine nx (.tmp 7) (.tmp 34) rfl rfl (u:=c1) (ub:=r2) (by simp[Act.eval]) (by simp[Act.eval,bz,bj]) (l.j.at (List.mem_cons_of_mem _ List.mem_cons_self)) ?_;have j:=Y ((l.j.swap.l9 c1 (Lj.j _)).swap);have m:=Y (i.j (_,_) _ j.j);refine Zb d m.j ?_;refine Zt 5 m.j ?_;refine wpAnyH_done Zx ?_ _;obtain⟨⟨z0,z1⟩,y0,y1,y2,y3,y4,y5,y6,y7⟩:=U8 (j.j.sub (F2:=[(r1,.cells (eL s).toArray 45 (0,0)),(r2,.cells (bj c1).toArray 84 (0,0))]) (λp hp=>by simp only[List.mem_cons,List.not_mem_nil,or_false] at hp|-;rcases hp with h|h;exact Or.inl h;exact Or.inr (Or.inl h)));have HO:=Y j.j.o;clear x l j k r m
  revert z0 z1 y0 y1 y2 y3 y4 y5 y6 y7 HO
  generalize World.setCells _ _ _ _=w9;intro z0 z1 y0 y1 y2 y3 y4 y5 y6 y7 HO;go_wp2_with fail;refine bodyPost_ret (v:=.tuple #[dU s,bz c1,O 0]) ?_ rfl ⟨rfl,HO.j⟩;simp[results,results251,go_sem,dU,bz,z0,z1,y0,y1,y2,y3,y4,y5,y6,y7]
end
section
variable {c:Cp}
theorem aan(a:c.rights=7)(r)(hr:r=1\/r=2\/r=4)(w):Zk 60 #[.agg #[O c.kind,O c.num,O c.rights,J c.bh,J c.guard,O c.aC,O c.root,J c.va],O r] w λe w'=>Zr e (.bool true)/\Zq w w':=by
 rw[a];rcases hr with rfl|rfl|rfl
 all_goals
  go_enter func60,ntmps60;go_wp2_with fail;all_goals
   go_ret;exact⟨rfl,by first|exact(H.refl _ w).alloc _|exact H.refl _ w⟩
end
section
variable {g:Nat}{c c1:Cp}{s:Sl}
theorem O9(hk:GL w kb sb g n)(hg:G8 w sb (n,0) c 0)(hl:Oq w sb c a s)(fv:G8 w sb s c1 0)(h7:c1.rights=7)(kx:c1.kind=7)(r)(hr:r=1\/r=2\/r=4):Zk 238 #[M kb,M g,J (a:Int),O 7,O r] w λe w'=>Zr e (.tuple #[dU s,bz c1,O 0])/\Zq w w':=by
 have⟨w1,A⟩:=Ze ((w.alloc (.cells #[O 0,O 0] 45)).alloc (.cells #[O 0,O 0,O 0,J 0,J 0,O 0,O 0,J 0] 84));have⟨r1,dM⟩:=Ze (w.heap.size);have⟨r2,fN⟩:=Ze (w.heap.size+1);have H1:Hid (bI w [(r1,.cells p4.toArray 45 (0,0)),(r2,.cells jd.toArray 84 (0,0))] w1):=by
  have k:=(((bI.start w).alloc (.cells #[O 0,O 0] 45 (0,0))).alloc (.cells #[O 0,O 0,O 0,J 0,J 0,O 0,O 0,J 0] 84 (0,0))).swap;rw[show(w.alloc (.cells #[O 0,O 0] 45 (0,0))).heap.size=w.heap.size+1 by simp] at k;rwa[A,dM,fN]
 have KY:Hid (r1≠r2):=by show r1≠r2;omega
 have js:Hid (∀F wv,bI w F wv->Zk 251 #[M kb,M g,J (a:Int)] wv λe w'=>Zr e (.tuple #[.agg #[O s.1,O s.2],.agg #[O c1.kind,O c1.num,O c1.rights,J c1.bh,J c1.guard,O c1.aC,O c1.root,J c1.va],O 0])/\Hid (bI w F w')):=λF wv h=>by
  refine(aiZ (hk.at h) (λf i=>hg f (h.o.trans i)) (λf i=>hl f (h.o.trans i)) (λf i=>fv f (h.o.trans i))).m ?_;rintro e w' ⟨rfl,B⟩;exact⟨rfl,h.quiet B⟩
 have C5:Hid (∀F wv,bI w F wv->Zk 60 #[.agg #[O c1.kind,O c1.num,O c1.rights,J c1.bh,J c1.guard,O c1.aC,O c1.root,J c1.va],O r] wv λe w'=>Zr e (.bool true)/\Hid (bI w F w')):=λF wv h=>by
  refine(aan h7 r hr wv).m ?_;rintro e w' ⟨rfl,B⟩;exact⟨rfl,h.quiet B⟩
 have j:=Y kx;have Dd:=Y (js.j _ _ H1.j);clear hk hg hl fv js h7 kx hr;go_enter func238,ntmps238;go_upto_region 1 with fail
 rw[<-A,<-fN,<-dM];clear A dM fN;go_wp2_with fail;refine Dd.j.m ?_;rintro e w2 ⟨rfl,l⟩;have⟨w3,C⟩:=Ze ((w2.alloc (.cells #[O s.1,O s.2] 45)).alloc (.cells #[O c1.kind,O c1.num,O c1.rights,J c1.bh,J c1.guard,O c1.aC,O c1.root,J c1.va] 84));have⟨d,D⟩:=Ze (w2.heap.size);have⟨ub,G⟩:=Ze (w2.heap.size+1)
 have m:Hid (r1≠d/\r2≠d/\r1≠ub/\r2≠ub):=by
  have e1:=aB (l.j.at (b:=r1) List.mem_cons_self);have e2:=aB (l.j.at (b:=r2) (List.mem_cons_of_mem _ List.mem_cons_self));show _/\_;omega
 have N:Hid (bI w [(r1,.cells p4.toArray 45 (0,0)),(r2,.cells jd.toArray 84 (0,0)),(d,.cells (eL s).toArray 45 (0,0)),(ub,.cells (bj c1).toArray 84 (0,0))] w3):=by
  have k:=(l.j.alloc (.cells #[O s.1,O s.2] 45 (0,0))).alloc (.cells #[O c1.kind,O c1.num,O c1.rights,J c1.bh,J c1.guard,O c1.aC,O c1.root,J c1.va] 84 (0,0));rw[show(w2.alloc (.cells #[O s.1,O s.2] 45 (0,0))).heap.size=w2.heap.size+1 by simp] at k;rw[C,D,G];exact k.sub (λp hp=>by simp only[List.mem_cons,List.not_mem_nil,or_false] at hp|-;rcases hp with h|h|h|h;exact Or.inr (Or.inr (Or.inl h));exact Or.inr (Or.inr (Or.inr h));exact Or.inr (Or.inl h);exact Or.inl h)
 go_upto_region 2 with fail
 rw[<-C,<-G,<-D];clear C D G l;obtain⟨l0,l1,l2,l3,l4,l5,l6,l7⟩:=N.j.cp (c:=c1) (b:=ub) (by simp);rw[j.j] at l0;have Lt:Hid (Zk 60 #[.agg #[O 7,O c1.num,O c1.rights,J c1.bh,J c1.guard,O c1.aC,O c1.root,J c1.va],O r] w3 λe w'=>Zr e (.bool true)/\Hid (bI w [(r1,.cells p4.toArray 45 (0,0)),(r2,.cells jd.toArray 84 (0,0)),(d,.cells (eL s).toArray 45 (0,0)),(ub,.cells (bj c1).toArray 84 (0,0))] w')):=by rw[<-j.j];exact C5.j _ _ N.j
 go_upto_region 7 with(refine Lt.j.m ?_;rintro e w4 ⟨rfl,H4⟩)
 have t:=Y H4.j.drew
 have Uj:Hid (∀o,∀p∈[((r2,o):Nat×Obj),(d,.cells (eL s).toArray 45 (0,0)),(ub,.cells (bj c1).toArray 84 (0,0))],p.1≠r1):=λo p hp he=>by
  simp only[List.mem_cons,List.not_mem_nil,or_false] at hp;rcases hp with rfl|rfl|rfl
  ·exact KY.j he.symm
  ·exact m.j.1 he.symm
  exact m.j.2.2.1 he.symm
 have Lj:Hid (∀o,∀p∈[((r1,o):Nat×Obj),(d,.cells (eL s).toArray 45 (0,0)),(ub,.cells (bj c1).toArray 84 (0,0))],p.1≠r2):=λo p hp he=>by
  simp only[List.mem_cons,List.not_mem_nil,or_false] at hp;rcases hp with rfl|rfl|rfl
  ·exact KY.j he
  ·exact m.j.2.1 he.symm
  exact m.j.2.2.2 he.symm
 have P:Hid (∀(q:Obj×Obj) wv,bI w [(r1,q.1),(r2,q.2),(d,.cells (eL s).toArray 45 (0,0)),(ub,.cells (bj c1).toArray 84 (0,0))] wv->(Zc wv d 0 (O s.1)/\Zc wv d 1 (O s.2))/\(Zc wv ub 0 (O c1.kind)/\Zc wv ub 1 (O c1.num)/\Zc wv ub 2 (O c1.rights)/\Zc wv ub 3 (J c1.bh)/\Zc wv ub 4 (J c1.guard)/\Zc wv ub 5 (O c1.aC)/\Zc wv ub 6 (O c1.root)/\Zc wv ub 7 (J c1.va))):=λq wv h=>⟨h.sl (s:=s) (by simp),h.cp (c:=c1) (by simp)⟩
 have x:=Y (P.j (_,_) _ t.j);clear l0 l1 l2 l3 l4 l5 l6 l7 Lt N;refine lY (S:=(λwv=>(wv.cell? (E d 0)=some (O s.1)/\wv.cell? (E d 1)=some (O s.2))/\(wv.cell? (E ub 0)=some (O c1.kind)/\wv.cell? (E ub 1)=some (O c1.num)/\wv.cell? (E ub 2)=some (O c1.rights)/\wv.cell? (E ub 3)=some (J c1.bh)/\wv.cell? (E ub 4)=some (J c1.guard)/\wv.cell? (E ub 5)=some (O c1.aC)/\wv.cell? (E ub 6)=some (O c1.root)/\wv.cell? (E ub 7)=some (J c1.va)))) Zx ?_;simp only[List.size_toArray,List.length_cons,List.length_nil,Nat.zero_add,Nat.reduceAdd];refine Zt 0 x.j ?_;refine Zt 1 x.j ?_;refine Zt 2 x.j ?_;refine Zy 3 (λK Q=>?_);refine PI (.tmp 10) (.tmp 38) rfl rfl (u:=s) (ub:=r1) (by simp[Act.eval]) (by simp[Act.eval,dU,eL]) (t.j.at List.mem_cons_self) ?_;have y:=Y (t.j.PJ s (Uj.j _));have dW:=Y (P.j (_,_) _ y.j);refine Zb Q dW.j ?_;refine Zy 4 (λK Q=>?_);refine nx (.tmp 11) (.tmp 39) rfl rfl (u:=c1) (ub:=r2) (by simp[Act.eval]) (by simp[Act.eval,bz,bj]) (y.j.at (List.mem_cons_of_mem _ List.mem_cons_self)) ?_;have z:=Y ((y.j.swap.l9 c1 (Lj.j _)).swap);have R:=Y (P.j (_,_) _ z.j);refine Zb Q R.j ?_;refine Zt 5 R.j ?_;refine wpAnyH_done Zx ?_ _;obtain⟨⟨z0,T⟩,U,V,W,y3,y4,X,y6,y7⟩:=U8 (z.j.sub (F2:=[(r1,.cells (eL s).toArray 45 (0,0)),(r2,.cells (bj c1).toArray 84 (0,0))]) (λp hp=>by simp only[List.mem_cons,List.not_mem_nil,or_false] at hp|-;rcases hp with h|h;exact Or.inl h;exact Or.inr (Or.inl h)));have HO:=Y z.j.o;clear t y z x dW R
 revert z0 T U V W y3 y4 X y6 y7 HO
 generalize World.setCells _ _ _ _=w9;intro z0 T U V W y3 y4 X y6 y7 HO;go_wp2_with fail;refine bodyPost_ret (v:=.tuple #[dU s,bz c1,O 0]) ?_ rfl ⟨rfl,HO.j⟩;simp[results,results238,go_sem,dU,bz,z0,T,U,V,W,y3,y4,X,y6,y7]
end
def nz(o:Oc):List Value:=[O o.err,O o.peer,J o.m.ak,J o.m.w0,J o.m.w1,J o.m.w2,J o.m.w3,J o.m.aQ,.bool o.wt,.bool o.ask,.bool o.ft]
def vv:List Value:=[O 0,O 0,J 0,J 0,J 0,J 0,J 0,J 0,.bool false,.bool false,.bool false]
theorem alF:(prog.info? 244).map (·.size)=some 11:=Zx
theorem aiw(o):∀v∈nz o,v.oneCell'=true:=λv hv=>by
 simp only[nz,List.mem_cons,List.not_mem_nil,or_false] at hv;rcases hv with rfl|rfl|rfl|rfl|rfl|rfl|rfl|rfl|rfl|rfl|rfl<;>rfl
theorem Bg{K:Act->World->Prop}(x y)(b:o.op=.store 244 x y)(c:o.dst=none){u:Oc}(d:act.eval x=M ub)(hy:act.eval y=.agg (nz u).toArray)(a:w.heap[ub]?=some (.cells vv.toArray 244 (0,0)))(h:K act (w.setCells ub 0 (nz u))):Oper.wp prog o act w K Q:=by
 have ht:w.there ub 0 (nz u).toArray.size:=λj e=>by
  refine⟨?_,fX a _⟩;rw[Nat.zero_add,cell_of_row _ _ j _ _ (0,0) a,List.getElem?_toArray,List.getElem?_eq_getElem (show j<vv.length from e)];rfl
 refine wp_store_mid 244 x y b ub 0 _ d hy ht (by rw[alF];rfl) (all_oneCell_toArray (aiw u)) ?_;rwa[c]
theorem ai.wL(h:ai U w kb mb sb pb qb bb tb D ks G ((ub,.cells vv.toArray 244 (0,0))::F) K wv)(u)(hN:¬U ub/\∀p∈F,p.1≠ub):ai U w kb mb sb pb qb bb tb D ks G ((ub,.cells (nz u).toArray 244 (0,0))::F) K (wv.setCells ub 0 (nz u)):=by
 have⟨h1,a⟩:=vB (nz u) [] vv wv rfl (h.at List.mem_cons_self);exact h.rh a h1 hN.1 hN.2
theorem lI(h:ai U w kb mb sb pb qb bb tb D ks G F K wv)(hb:b=wv.heap.size):¬U b/\∀p∈F,p.1≠b:=⟨λhu=>by have:=h.low b hu;omega,λp hp he=>by have:=aB (h.f p hp);omega⟩
theorem ai.oc(h:ai U w kb mb sb pb qb bb tb D ks G F K wv){o:Oc}(hm:(b,.cells (nz o).toArray 244 (0,0))∈F):wv.cell? (E b 0)=some (O o.err)/\wv.cell? (E b 1)=some (O o.peer)/\wv.cell? (E b 2)=some (J o.m.ak)/\wv.cell? (E b 3)=some (J o.m.w0)/\wv.cell? (E b 4)=some (J o.m.w1)/\wv.cell? (E b 5)=some (J o.m.w2)/\wv.cell? (E b 6)=some (J o.m.w3)/\wv.cell? (E b 7)=some (J o.m.aQ)/\wv.cell? (E b 8)=some (.bool o.wt)/\wv.cell? (E b 9)=some (.bool o.ask)/\wv.cell? (E b 10)=some (.bool o.ft):=by
 have hr:=h.at hm;exact⟨Zl hr,Zl hr,Zl hr,Zl hr,Zl hr,Zl hr,Zl hr,Zl hr,Zl hr,Zl hr,Zl hr⟩
theorem aq.send(h:aq U w kb mb sb pb qb bb tb D ks G K)(c:K.b.ws.length<1000000)(n t k)(hn:af n)(it:af t)(m)(d:k=3):Zk 104 #[M bb,O n,O t,O k,mL m] w λe w'=>Zr e (lC (sH K.b n t k m))/\aq U w' kb mb sb pb qb bb tb D ks G {K with b:=rl K.b n t k m}/\Zn U w w':=
 by subst d;exact aN.call h 4 rfl (re.dF bb (rl K.b n t 3 m)) (λf a=>acq a c n t hn it m)
theorem aq.abp(h:aq U w kb mb sb pb qb bb tb D ks G K)(d:K.b.ws.length<1000000)(n t)(hn:af n)(it:af t)(b)(c:b=true):Zk 299 #[M bb,O n,O t,.bool b] w λe w'=>Zr e (lC (uH K.b n t b))/\aq U w' kb mb sb pb qb bb tb D ks G {K with b:=tC K.b n t b}/\Zn U w w':=
 by subst c;exact aN.call h 4 rfl (re.dF bb (tC K.b n t true)) (λf a=>acM a d n t hn it)
theorem ai.look(h:ai U w kb mb sb pb qb bb tb D ks G F K wv)(hn:af n){j:Nat}(hf:da K.T n=some j):(Instr.lookup 96 (.map (some tb)) (O n) false).run prog wv=.ok (.pointer (some ⟨G n,0,none⟩)) wv:=by
 have⟨⟨V,h1,b,a⟩,_,_⟩:=h;have:=a.look n hn;rwa[hf] at this
theorem ai.num(h:ai U w kb mb sb pb qb bb tb D ks G F K wv)(hi:i<K.T.length):wv.cell? ⟨G K.T[i].num,0,none⟩=some (O K.T[i].num):=by
 have⟨⟨V,h1,b,a⟩,_,_⟩:=h;exact(a.zj hi).1
theorem afI(h:aq U w kb mb sb pb qb bb tb D ks G K)(hi:i<K.T.length)(hn:af K.T[i].num)(hf:da K.T K.T[i].num=some i)(hl:K.b.ws.length<1000000)(e)(he:af e)(m)(T:sH K.b e K.T[i].num 3 m=lD):Zk 62 #[M kb,.pointer (some ⟨G K.T[i].num,0,none⟩),O e,O 3,mL m] w λx w'=>x=.returned (O 0)/\aq U w' kb mb sb pb qb bb tb D ks G (gj {K with b:=rl K.b e K.T[i].num 3 m} i 3)/\Zn U w w':=by
 have⟨oc,W⟩:=Ze (sH K.b e K.T[i].num 3 m);have⟨f,z⟩:=Ze ({K with b:=rl K.b e K.T[i].num 3 m}:Kn);have A:f.T=K.T:=by rw[z]
 have X:i<f.T.length:=by rw[A];exact hi
 have r:f.T[i]=K.T[i]:=by simp only[A]
 rw[<-W] at T;rw[<-z];have⟨w1,ae⟩:=Ze (w.alloc (.cells #[J m.ak,J m.w0,J m.w1,J m.w2,J m.w3,J m.aQ] 172));have⟨ob,aP⟩:=Ze (w.heap.size);have⟨F,hF⟩:∃F:List (Nat×Obj),F=[(ob,.cells #[J m.ak,J m.w0,J m.w1,J m.w2,J m.w3,J m.aQ] 172 (0,0))]:=⟨_,rfl⟩;have⟨s,B⟩:=Ze (K);have C:Hid (ai U w kb mb sb pb qb bb tb D ks G F s w1):=by rw[ae,hF,aP,B];exact(ai.start h).alloc _
 have dx:=Y C.j.drew;have mY:Hid (∀F2 j wv,ai U w kb mb sb pb qb bb tb D ks G (F2++F) j wv->wv.cell? (E ob 0)=some (J m.ak)/\wv.cell? (E ob 1)=some (J m.w0)/\wv.cell? (E ob 2)=some (J m.w1)/\wv.cell? (E ob 3)=some (J m.w2)/\wv.cell? (E ob 4)=some (J m.w3)/\wv.cell? (E ob 5)=some (J m.aQ)):=λF2 j wv h=>by
  have hr:=h.at (b:=ob) (o:=.cells #[J m.ak,J m.w0,J m.w1,J m.w2,J m.w3,J m.aQ] 172 (0,0)) (List.mem_append_right _ (by rw[hF];exact List.mem_cons_self));exact⟨Zl hr,Zl hr,Zl hr,Zl hr,Zl hr,Zl hr⟩
 have N:Hid (∀F wv,ai U w kb mb sb pb qb bb tb D ks G F s wv->Zk 104 #[M bb,O e,O K.T[i].num,O 3,.agg #[J m.ak,J m.w0,J m.w1,J m.w2,J m.w3,J m.aQ]] wv λx w'=>x=.returned (.agg (nz oc).toArray)/\Hid (ai U w kb mb sb pb qb bb tb D ks G F f w')):=λF wv l=>(B▸l).call (λV h=>by rw[z,W];exact h.send hl e _ 3 he hn m rfl);have P:Hid (∀F j wv,ai U w kb mb sb pb qb bb tb D ks G F j wv->j=s\/j=f->Zc wv (G K.T[i].num) 0 (O K.T[i].num)):=λF j wv l hk=>by
  rcases hk with hk|hk
  ·rw[hk,B] at l;exact l.num hi
  rw[hk] at l;have:=l.num X;rwa[r] at this
 have⟨t,dN⟩:=Ze (K.T[i].num);have⟨a,Q⟩:=Ze (G K.T[i].num);rw[<-Q] at P;rw[<-dN] at P N;have r8:Hid (∀F2 wv,ai U w kb mb sb pb qb bb tb D ks G (F2++F) s wv->Zc wv kb 4 (M bb)/\Zc wv a 0 (O t)/\Zc wv ob 0 (J m.ak)/\Zc wv ob 1 (J m.w0)/\Zc wv ob 2 (J m.w1)/\Zc wv ob 3 (J m.w2)/\Zc wv ob 4 (J m.w3)/\Zc wv ob 5 (J m.aQ)):=λF2 wv h=>⟨h.c.2.2.2.2.1,P.j _ _ _ h (Or.inl rfl),mY.j _ _ _ h⟩;have n:Hid (∀F2 wv,ai U w kb mb sb pb qb bb tb D ks G (F2++F) f wv->Zc wv kb 4 (M bb)/\Zc wv a 0 (O t)/\Zc wv ob 0 (J m.ak)/\Zc wv ob 1 (J m.w0)/\Zc wv ob 2 (J m.w1)/\Zc wv ob 3 (J m.w2)/\Zc wv ob 4 (J m.w3)/\Zc wv ob 5 (J m.aQ)):=λF2 wv h=>⟨h.c.2.2.2.2.1,P.j _ _ _ h (Or.inr rfl),mY.j _ _ _ h⟩
 have dh:Hid (∀F wv,ai U w kb mb sb pb qb bb tb D ks G F f wv->Zk 61 #[M kb,M a,O 3] wv λe w'=>Zr e (.tuple #[])/\Hid (ai U w kb mb sb pb qb bb tb D ks G F (gj f i 3) w')):=λF wv h=>h.call (λV h=>by
  have h9:=Hk h X (by rw[r];exact hn) (by rw[r,A];exact hf) 3;rw[r,<-Q] at h9
  exact h9)
 rw[<-Q];rw[show mL m=.agg #[J m.ak,J m.w0,J m.w1,J m.w2,J m.w3,J m.aQ] from rfl];have u9:Hid (oc=lD):=T;clear h hi hn hf hl he T W A X r Q dN z B;go_enter func62,ntmps62;go_upto_region 1 with fail
 rw[<-ae,<-aP];clear ae aP;have c:=Y (r8.j [] _ dx.j);go_cut [11] from 12 to 24 (λJ3 wx=>∃cb,J3=M cb/\Hid (ai U w kb mb sb pb qb bb tb D ks G ((cb,.cells (nz oc).toArray 244 (0,0))::F) f wx))
 case first=>
  refine lY (S:=(λwv=>wv.cell? (E kb 4)=some (M bb)/\wv.cell? (E a 0)=some (O t)/\wv.cell? (E ob 0)=some (J m.ak)/\wv.cell? (E ob 1)=some (J m.w0)/\wv.cell? (E ob 2)=some (J m.w1)/\wv.cell? (E ob 3)=some (J m.w2)/\wv.cell? (E ob 4)=some (J m.w3)/\wv.cell? (E ob 5)=some (J m.aQ))) Zx ?_;simp only[List.size_toArray,List.length_cons,List.length_nil,Nat.zero_add,Nat.reduceAdd];refine Zt 0 c.j ?_;refine Zt 1 c.j ?_;refine Zt 2 c.j ?_;refine Zt 3 c.j ?_;refine Zt 4 c.j ?_;refine Zt 5 c.j ?_;refine Zt 6 c.j ?_;refine Zt 7 c.j ?_;refine Zt 8 c.j ?_;refine Zt 9 c.j ?_;refine Zt 10 c.j ?_;refine wpAnyH_ready (rs:=[11,12]) Zx (by simp) ?_;refine(AllReadyH.cons Zg (λK d=>?_) (AllReadyH.cons Zg (λK d=>?_) AllReadyH.nil))
  ·as_aux_lemma=>
    refine dc rfl 104 #[Operand.tmp 15,Operand.tmp 16,Operand.tmp 20,Operand.tmp 21,Operand.tmp 22] #[95,3,3,3,172] rfl #[M bb,O e,O t,O 3,.agg #[J m.ak,J m.w0,J m.w1,J m.w2,J m.w3,J m.aQ]] (by first|rfl|simp[Act.eval,go_sem]) (by simp[go_sem]) (N.j _ _ dx.j) ?_;rintro e R ⟨rfl,p⟩;have dW:=Y (n.j [] _ p.j);refine⟨_,rfl,?_⟩;refine Zb d dW.j ?_;refine Zy 12 (λK d=>?_);go_simp;obtain⟨cb,g⟩:=Ze (R.heap.size);obtain⟨gh,iv⟩:=Ze (R.alloc (.cells #[O 0,O 0,J 0,J 0,J 0,J 0,J 0,J 0,.bool false,.bool false,.bool false] 244));have k:Hid (ai U w kb mb sb pb qb bb tb D ks G ((cb,.cells vv.toArray 244 (0,0))::F) f gh):=by rw[iv,g];exact(p.j.alloc _)
    have sf:=Y (lI p.j g);have cE:=Y (n.j [_] _ k.j);rw[<-iv,<-g];clear iv g;refine Zb d cE.j ?_;refine Zy 13 (λK d=>?_);refine Bg (.tmp 11) (.tmp 23) rfl rfl (u:=oc) (ub:=cb) (by simp[Act.eval]) (by simp[Act.eval]) (k.j.at List.mem_cons_self) ?_;have v:=Y (k.j.wL oc sf.j);have cV:=Y (n.j [_] _ v.j);refine Zb d cV.j ?_;refine wpAnyH_done Zx ?_ _
    go_wp2
    go_meet;exact⟨_,rfl,v⟩
  as_aux_lemma=>
   go_simp;obtain⟨cb,g⟩:=Ze (w1.heap.size);obtain⟨R,iy⟩:=Ze ((w1.alloc (.cells #[O 0,O 0,J 0,J 0,J 0,J 0,J 0,J 0,.bool false,.bool false,.bool false] 244)).drew);have p:Hid (ai U w kb mb sb pb qb bb tb D ks G ((cb,.cells vv.toArray 244 (0,0))::F) s R):=by rw[iy,g];exact(C.j.alloc _).drew
   have sf:=Y (lI C.j g);have dW:=Y (r8.j [_] _ p.j);rw[<-iy,<-g];clear iy g;refine Zb d dW.j ?_;refine Zy 11 (λK d=>?_);refine dc rfl 104 #[Operand.tmp 15,Operand.tmp 16,Operand.tmp 20,Operand.tmp 21,Operand.tmp 22] #[95,3,3,3,172] rfl #[M bb,O e,O t,O 3,.agg #[J m.ak,J m.w0,J m.w1,J m.w2,J m.w3,J m.aQ]] (by first|rfl|simp[Act.eval,go_sem]) (by simp[go_sem]) (N.j _ _ p.j) ?_;rintro e gh ⟨rfl,k⟩;have cE:=Y (n.j [_] _ k.j);refine⟨_,rfl,?_⟩;refine Zb d cE.j ?_;refine Zy 13 (λK d=>?_);refine Bg (.tmp 11) (.tmp 23) rfl rfl (u:=oc) (ub:=cb) (by simp[Act.eval]) (by simp[Act.eval]) (k.j.at List.mem_cons_self) ?_;have v:=Y (k.j.wL oc sf.j);have cV:=Y (n.j [_] _ v.j);refine Zb d cV.j ?_;refine wpAnyH_done Zx ?_ _
   go_wp2
   go_meet;exact⟨_,rfl,v⟩
 case rest=>
  obtain⟨cb,rfl,H2⟩:=hcut;clear c dx C N r8 n;have aZ:=Y (dh.j _ _ H2.j);obtain⟨q,q1,q2,q3,q4,q5,q6,q7,y,q9,yD⟩:=H2.j.oc (o:=oc) (b:=cb) List.mem_cons_self;rw[u9.j] at q y;dsimp only[lD] at q y;clear q1 q2 q3 q4 q5 q6 q7 q9 yD;go_wp2_with fail;refine aZ.j.m ?_;rintro e w3 ⟨rfl,H3⟩;clear q y;obtain⟨q,q1,q2,q3,q4,q5,q6,q7,y,q9,yD⟩:=H3.j.oc (o:=oc) (b:=cb) List.mem_cons_self;rw[u9.j] at q;dsimp only[lD] at q;clear q1 q2 q3 q4 q5 q6 q7 y q9 yD;go_wp2_with fail
  all_goals
   go_ret;exact⟨rfl,H3.j.fin⟩
section
variable {g:Nat}
theorem afJ(h:aq U w kb mb sb pb qb bb tb D ks G K)(hi:i<K.T.length)(hg:g<K.T.length)(aH:g≠i)(hn:af K.T[i].num)(hf:da K.T K.T[i].num=some i)(ig:af K.T[g].num)(yY:da K.T K.T[g].num=some g)(h0:K.T[g].num≠ -1/\K.T[i].num≠ -1)(hc:K.T[g].dV= -1)(qM:K.T[i].rg 16=4294967295)(hl:K.b.ws.length<1000000)(e)(he:af e)(m)(r:sH K.b e K.T[i].num 3 m=yG K.T[g].num 3 m):Zk 62 #[M kb,.pointer (some ⟨G K.T[i].num,0,none⟩),O e,O 3,mL m] w λx w'=>x=.returned (O 0)/\aq U w' kb mb sb pb qb bb tb D ks G (oE {K with b:=rl K.b e K.T[i].num 3 m} i g m)/\Zn U w w':=by
 have⟨oc,oM⟩:=Ze (sH K.b e K.T[i].num 3 m);have⟨d,Q⟩:=Ze ({K with b:=rl K.b e K.T[i].num 3 m}:Kn);have n:d.T=K.T:=by rw[Q]
 have iX:i<d.T.length:=by rw[n];exact hi
 have p:d.T[i]=K.T[i]:=by simp only[n]
 rw[<-oM] at r;rw[<-Q];have⟨w1,ae⟩:=Ze (w.alloc (.cells #[J m.ak,J m.w0,J m.w1,J m.w2,J m.w3,J m.aQ] 172));have⟨ob,aP⟩:=Ze (w.heap.size);have⟨F,hF⟩:∃F:List (Nat×Obj),F=[(ob,.cells #[J m.ak,J m.w0,J m.w1,J m.w2,J m.w3,J m.aQ] 172 (0,0))]:=⟨_,rfl⟩;have⟨C,R⟩:=Ze (K);have T:Hid (ai U w kb mb sb pb qb bb tb D ks G F C w1):=by rw[ae,hF,aP,R];exact(ai.start h).alloc _
 have s:=Y T.j.drew;have mY:Hid (∀F2 f wv,ai U w kb mb sb pb qb bb tb D ks G (F2++F) f wv->wv.cell? (E ob 0)=some (J m.ak)/\wv.cell? (E ob 1)=some (J m.w0)/\wv.cell? (E ob 2)=some (J m.w1)/\wv.cell? (E ob 3)=some (J m.w2)/\wv.cell? (E ob 4)=some (J m.w3)/\wv.cell? (E ob 5)=some (J m.aQ)):=λF2 f wv h=>by
  have hr:=h.at (b:=ob) (o:=.cells #[J m.ak,J m.w0,J m.w1,J m.w2,J m.w3,J m.aQ] 172 (0,0)) (List.mem_append_right _ (by rw[hF];exact List.mem_cons_self));exact⟨Zl hr,Zl hr,Zl hr,Zl hr,Zl hr,Zl hr⟩
 have W:Hid (∀F wv,ai U w kb mb sb pb qb bb tb D ks G F C wv->Zk 104 #[M bb,O e,O K.T[i].num,O 3,.agg #[J m.ak,J m.w0,J m.w1,J m.w2,J m.w3,J m.aQ]] wv λx w'=>x=.returned (.agg (nz oc).toArray)/\Hid (ai U w kb mb sb pb qb bb tb D ks G F d w')):=λF wv t=>(R▸t).call (λV h=>by rw[Q,oM];exact h.send hl e _ 3 he hn m rfl);have X:Hid (∀F f wv,ai U w kb mb sb pb qb bb tb D ks G F f wv->f=C\/f=d->Zc wv (G K.T[i].num) 0 (O K.T[i].num)):=λF f wv t hk=>by
  rcases hk with hk|hk
  ·rw[hk,R] at t;exact t.num hi
  rw[hk] at t;have:=t.num iX;rwa[p] at this
 have⟨N,dN⟩:=Ze (K.T[i].num);have⟨a,gv⟩:=Ze (G K.T[i].num);rw[<-gv] at X;rw[<-dN] at X W;have r8:Hid (∀F2 wv,ai U w kb mb sb pb qb bb tb D ks G (F2++F) C wv->Zc wv kb 4 (M bb)/\Zc wv a 0 (O N)/\Zc wv ob 0 (J m.ak)/\Zc wv ob 1 (J m.w0)/\Zc wv ob 2 (J m.w1)/\Zc wv ob 3 (J m.w2)/\Zc wv ob 4 (J m.w3)/\Zc wv ob 5 (J m.aQ)):=λF2 wv h=>⟨h.c.2.2.2.2.1,X.j _ _ _ h (Or.inl rfl),mY.j _ _ _ h⟩;have y:Hid (∀F2 wv,ai U w kb mb sb pb qb bb tb D ks G (F2++F) d wv->Zc wv kb 4 (M bb)/\Zc wv a 0 (O N)/\Zc wv ob 0 (J m.ak)/\Zc wv ob 1 (J m.w0)/\Zc wv ob 2 (J m.w1)/\Zc wv ob 3 (J m.w2)/\Zc wv ob 4 (J m.w3)/\Zc wv ob 5 (J m.aQ)):=λF2 wv h=>⟨h.c.2.2.2.2.1,X.j _ _ _ h (Or.inr rfl),mY.j _ _ _ h⟩;have fv:g<d.T.length:=by rw[n];exact hg
 have z:d.T[g]=K.T[g]:=by simp only[n]
 have hm:oc.m=m:=by rw[r];rfl
 have qV:Hid (∀F wv,ai U w kb mb sb pb qb bb tb D ks G F d wv->Zk 105 #[M kb,M a,.pointer (some ⟨G K.T[g].num,0,none⟩),.agg #[O oc.err,O oc.peer,J oc.m.ak,J oc.m.w0,J oc.m.w1,J oc.m.w2,J oc.m.w3,J oc.m.aQ,.bool oc.wt,.bool oc.ask,.bool oc.ft]] wv λe w'=>Zr e (.tuple #[])/\Hid (ai U w kb mb sb pb qb bb tb D ks G F (oE d i g m) w')):=λF wv h=>h.call (λV h=>by
  have h9:=XK h fv iX aH (by rw[z,n];exact yY) (by rw[p,n];exact hf) (by rw[z];exact ig) (by rw[p];exact hn) (by rw[z,p];exact h0) (by rw[z];exact hc) (by rw[p];exact qM) oc (by rw[r];exact⟨rfl,rfl,rfl,rfl⟩);rw[p,z,<-gv,hm] at h9
  exact h9)
 have fJ:Hid (∀F wv,ai U w kb mb sb pb qb bb tb D ks G F d wv->(Instr.lookup 96 (.map (some tb)) (O oc.peer) false).run prog wv=.ok (.pointer (some ⟨G K.T[g].num,0,none⟩)) wv):=λF wv h=>by
  have hp:oc.peer=K.T[g].num:=by rw[r];rfl
  rw[hp];exact h.look ig (j:=g) (by rw[n];exact yY)
 rw[<-gv];rw[show mL m=.agg #[J m.ak,J m.w0,J m.w1,J m.w2,J m.w3,J m.aQ] from rfl];have u9:Hid (oc.err=0/\oc.wt=false):=by rw[r];exact⟨rfl,rfl⟩
 generalize G K.T[g].num=gb at qV fJ;clear h hi hn hf hl he r oM n iX p gv dN Q R hg aH ig yY h0 hc qM fv z hm;go_enter func62,ntmps62;go_upto_region 1 with fail
 rw[<-ae,<-aP];clear ae aP;have c:=Y (r8.j [] _ s.j);go_cut [11] from 12 to 24 (λJ3 wx=>∃cb,J3=M cb/\Hid (ai U w kb mb sb pb qb bb tb D ks G ((cb,.cells (nz oc).toArray 244 (0,0))::F) d wx))
 case first=>
  refine lY (S:=(λwv=>wv.cell? (E kb 4)=some (M bb)/\wv.cell? (E a 0)=some (O N)/\wv.cell? (E ob 0)=some (J m.ak)/\wv.cell? (E ob 1)=some (J m.w0)/\wv.cell? (E ob 2)=some (J m.w1)/\wv.cell? (E ob 3)=some (J m.w2)/\wv.cell? (E ob 4)=some (J m.w3)/\wv.cell? (E ob 5)=some (J m.aQ))) Zx ?_;simp only[List.size_toArray,List.length_cons,List.length_nil,Nat.zero_add,Nat.reduceAdd];refine Zt 0 c.j ?_;refine Zt 1 c.j ?_;refine Zt 2 c.j ?_;refine Zt 3 c.j ?_;refine Zt 4 c.j ?_;refine Zt 5 c.j ?_;refine Zt 6 c.j ?_;refine Zt 7 c.j ?_;refine Zt 8 c.j ?_;refine Zt 9 c.j ?_;refine Zt 10 c.j ?_;refine wpAnyH_ready (rs:=[11,12]) Zx (by simp) ?_;refine(AllReadyH.cons Zg (λK k=>?_) (AllReadyH.cons Zg (λK k=>?_) AllReadyH.nil))
  ·as_aux_lemma=>
    refine dc rfl 104 #[Operand.tmp 15,Operand.tmp 16,Operand.tmp 20,Operand.tmp 21,Operand.tmp 22] #[95,3,3,3,172] rfl #[M bb,O e,O N,O 3,.agg #[J m.ak,J m.w0,J m.w1,J m.w2,J m.w3,J m.aQ]] (by first|rfl|simp[Act.eval,go_sem]) (by simp[go_sem]) (W.j _ _ s.j) ?_;rintro e dS ⟨rfl,A⟩;have dW:=Y (y.j [] _ A.j);refine⟨_,rfl,?_⟩;refine Zb k dW.j ?_;refine Zy 12 (λK k=>?_);go_simp;obtain⟨cb,l⟩:=Ze (dS.heap.size);obtain⟨gh,iv⟩:=Ze (dS.alloc (.cells #[O 0,O 0,J 0,J 0,J 0,J 0,J 0,J 0,.bool false,.bool false,.bool false] 244));have q:Hid (ai U w kb mb sb pb qb bb tb D ks G ((cb,.cells vv.toArray 244 (0,0))::F) d gh):=by rw[iv,l];exact(A.j.alloc _)
    have sf:=Y (lI A.j l);have cE:=Y (y.j [_] _ q.j);rw[<-iv,<-l];clear iv l;refine Zb k cE.j ?_;refine Zy 13 (λK k=>?_);refine Bg (.tmp 11) (.tmp 23) rfl rfl (u:=oc) (ub:=cb) (by simp[Act.eval]) (by simp[Act.eval]) (q.j.at List.mem_cons_self) ?_;have P:=Y (q.j.wL oc sf.j);have cV:=Y (y.j [_] _ P.j);refine Zb k cV.j ?_;refine wpAnyH_done Zx ?_ _
    go_wp2
    go_meet;exact⟨_,rfl,P⟩
  as_aux_lemma=>
   go_simp;obtain⟨cb,l⟩:=Ze (w1.heap.size);obtain⟨dS,iy⟩:=Ze ((w1.alloc (.cells #[O 0,O 0,J 0,J 0,J 0,J 0,J 0,J 0,.bool false,.bool false,.bool false] 244)).drew);have A:Hid (ai U w kb mb sb pb qb bb tb D ks G ((cb,.cells vv.toArray 244 (0,0))::F) C dS):=by rw[iy,l];exact(T.j.alloc _).drew
   have sf:=Y (lI T.j l);have dW:=Y (r8.j [_] _ A.j);rw[<-iy,<-l];clear iy l;refine Zb k dW.j ?_;refine Zy 11 (λK k=>?_);refine dc rfl 104 #[Operand.tmp 15,Operand.tmp 16,Operand.tmp 20,Operand.tmp 21,Operand.tmp 22] #[95,3,3,3,172] rfl #[M bb,O e,O N,O 3,.agg #[J m.ak,J m.w0,J m.w1,J m.w2,J m.w3,J m.aQ]] (by first|rfl|simp[Act.eval,go_sem]) (by simp[go_sem]) (W.j _ _ A.j) ?_;rintro e gh ⟨rfl,q⟩;have cE:=Y (y.j [_] _ q.j);refine⟨_,rfl,?_⟩;refine Zb k cE.j ?_;refine Zy 13 (λK k=>?_);refine Bg (.tmp 11) (.tmp 23) rfl rfl (u:=oc) (ub:=cb) (by simp[Act.eval]) (by simp[Act.eval]) (q.j.at List.mem_cons_self) ?_;have P:=Y (q.j.wL oc sf.j);have cV:=Y (y.j [_] _ P.j);refine Zb k cV.j ?_;refine wpAnyH_done Zx ?_ _
   go_wp2
   go_meet;exact⟨_,rfl,P⟩
 case rest=>
  obtain⟨cb,rfl,H2⟩:=hcut;clear c s T W r8 y;have B:=H2.j.oc (o:=oc) (b:=cb) List.mem_cons_self;have q0:=B.1;have q8:=B.2.2.2.2.2.2.2.2.1;clear B;rw[u9.j.1] at q0;rw[u9.j.2] at q8;go_upto_region 5 with fail
  have s:=Y H2.j.drew
  have av:Hid (∀f wv,ai U w kb mb sb pb qb bb tb D ks G ((cb,.cells (nz oc).toArray 244 (0,0))::F) f wv->f=d->wv.cell? (E kb 5)=some (.map (some tb))/\(Instr.lookup 96 (.map (some tb)) (O oc.peer) false).run prog wv=.ok (M gb) wv/\wv.cell? (E cb 0)=some (O oc.err)/\wv.cell? (E cb 1)=some (O oc.peer)/\wv.cell? (E cb 2)=some (J oc.m.ak)/\wv.cell? (E cb 3)=some (J oc.m.w0)/\wv.cell? (E cb 4)=some (J oc.m.w1)/\wv.cell? (E cb 5)=some (J oc.m.w2)/\wv.cell? (E cb 6)=some (J oc.m.w3)/\wv.cell? (E cb 7)=some (J oc.m.aQ)/\wv.cell? (E cb 8)=some (.bool oc.wt)/\wv.cell? (E cb 9)=some (.bool oc.ask)/\wv.cell? (E cb 10)=some (.bool oc.ft)):=λf wv h hk=>by
   subst hk;exact⟨h.c.2.2.2.2.2,fJ.j _ _ h,h.oc List.mem_cons_self⟩
  have c:=Y (av.j _ _ s.j rfl);have Lk:=Y (qV.j _ _ s.j);clear q0 q8;refine sx (S:=(λwv=>wv.cell? (E kb 5)=some (.map (some tb))/\(Instr.lookup 96 (.map (some tb)) (O oc.peer) false).run prog wv=.ok (M gb) wv/\wv.cell? (E cb 0)=some (O oc.err)/\wv.cell? (E cb 1)=some (O oc.peer)/\wv.cell? (E cb 2)=some (J oc.m.ak)/\wv.cell? (E cb 3)=some (J oc.m.w0)/\wv.cell? (E cb 4)=some (J oc.m.w1)/\wv.cell? (E cb 5)=some (J oc.m.w2)/\wv.cell? (E cb 6)=some (J oc.m.w3)/\wv.cell? (E cb 7)=some (J oc.m.aQ)/\wv.cell? (E cb 8)=some (.bool oc.wt)/\wv.cell? (E cb 9)=some (.bool oc.ask)/\wv.cell? (E cb 10)=some (.bool oc.ft))) 10 Zx Zg Zx ?_;simp only[jM,oC,List.setIfInBounds_toArray,List.set_cons_zero,List.set_cons_succ,List.size_toArray,List.length_cons,List.length_nil,Nat.zero_add,Nat.reduceAdd];refine Zt 0 c.j ?_;refine Zt 1 c.j ?_;refine Zt 2 c.j ?_;refine Zt 3 c.j ?_;refine Zt 4 c.j ?_;refine Zt 5 c.j ?_;refine Zt 6 c.j ?_;refine Zt 7 c.j ?_;refine Zt 8 c.j ?_;refine Zt 9 c.j ?_;refine wpAnyH_take (i:=10) (v:=undef) Zg Zx Zx Zx (by exact λ_ _ _ h=>h) (Or.inr ⟨by rfl,rfl⟩) c.j ?_;refine wpAnyH_done Zx ?_ _;simp only[p8];go_wp2_with fail;refine Lk.j.m ?_;rintro e w3 ⟨rfl,H3⟩;have B:=H3.j.oc (o:=oc) (b:=cb) List.mem_cons_self;have q0:=B.1;clear B;rw[u9.j.1] at q0;go_wp2_with fail
  all_goals
   go_ret;exact⟨rfl,H3.j.fin⟩
end
section
variable {g:Nat}{c c1:Cp}{s:Sl}
structure O4(bs:Lp)(es:List En)(n:Int)(c c1:Cp)(s:Sl):Prop where
 g:aI bs es (n,0)=(c,0)
 l:zZ bs es 0 c 32=(s,0)
 g1:aI bs es s=(c1,0)
 r:c1.rights=7
 k:c1.kind=7
 i0:af n
 i1:af c.num
 i2:af s.1
 i3:af c1.num
end
section
variable {c:Cp}{s:Sl}
theorem aq.Cq(h:aq U w kb mb sb pb qb bb tb D ks G K){s:Sl}{c:Cp}(hg:aI K.bs K.es s=(c,e))(hs:af s.1):G8 w sb s c e:=λwv a=>by
 have:=(h.quiet a).x.get s hs;rw[hg] at this;exact this
theorem aq.looks(h:aq U w kb mb sb pb qb bb tb D ks G K){s:Sl}{c:Cp}(b:zZ K.bs K.es a c 32=(s,0))(hn:af c.num)(ha:a<4294967296):Oq w sb c a s:=λwv d=>by
 obtain⟨f,e⟩:=(h.quiet d).x.caps;have:=acI e c hn a ha 32;rw[b] at this;exact this
end
section
variable {g:Nat}{c c1:Cp}{s:Sl}
theorem afH(h:aq U w kb mb sb pb qb bb tb D ks G K)(hi:i<K.T.length)(d:O4 K.bs K.es K.T[i].num c c1 s)(T:K.T[i].rg 10=0)(p:∀V wv,aq V wv kb mb sb pb qb bb tb D ks G (ba K i {K.T[i] with gr:=true})->Zk 62 #[M kb,.pointer (some ⟨G K.T[i].num,0,none⟩),O c1.num,O 3,mL (pn K.T[i] c1.bh)] wv λx w'=>x=.returned (O 0)/\aq V w' kb mb sb pb qb bb tb D ks G KE/\Zn V wv w'):Zk 234 #[M kb,.pointer (some ⟨G K.T[i].num,0,none⟩),O 3] w λx w'=>x=.returned (O 0)/\aq U w' kb mb sb pb qb bb tb D ks G KE/\Zn U w w':=by
 have⟨Fu,BT⟩:=Ze (K.T[i].rg 10:Int);have q:=h.zN hi (x:=10) I;rw[T] at q;have t:Hid (Zk 238 #[M kb,.pointer (some ⟨G K.T[i].num,0,none⟩),J 0,O 7,O 2] w λe w'=>Zr e (.tuple #[.agg #[O s.1,O s.2],.agg #[O c1.kind,O c1.num,O c1.rights,J c1.bh,J c1.guard,O c1.aC,O c1.root,J c1.va],O 0])/\Hid (ai U w kb mb sb pb qb bb tb D ks G [] K w')):=by
  refine(O9 (a:=0) ⟨h.x.c1,(h.zj hi).1⟩ (h.Cq d.g d.i0) (h.looks d.l d.i1 I) (h.Cq d.g1 d.i2) d.r d.k 2 I).m ?_;rintro e w' ⟨rfl,j⟩;exact⟨rfl,(ai.start h).quiet j⟩
 have⟨m,n⟩:=Ze (ba K i {K.T[i] with gr:=true}:Kn);rw[<-n] at p;have⟨W,e1⟩:=A9 hi {K.T[i] with gr:=true};have X:Hid (∀F wv,ai U w kb mb sb pb qb bb tb D ks G F K wv->(∃b,wv.cell? ⟨G K.T[i].num,37,none⟩=some (.bool b))/\wv.frozen? ⟨G K.T[i].num,37,none⟩=false/\ai U w kb mb sb pb qb bb tb D ks G F m (wv.setCell ⟨G K.T[i].num,37,none⟩ (.bool true))):=λF wv f=>by
  have⟨⟨V,h1,h2,k⟩,h4,u⟩:=id f;refine⟨⟨_,(cell_of_row _ _ 37 _ _ (0,0) (k.th hi)).trans (zI G _).2.2.2⟩,fX (k.th hi) 37,f.on (λV h=>?_)⟩;rw[n];exact h.GB hi 37 (.bool true) (y:={K.T[i] with gr:=true}) rfl (Hv G _ (-1) true).2.2
 have z:Hid (∀F wv,ai U w kb mb sb pb qb bb tb D ks G F m wv->Zk 236 #[.pointer (some ⟨G K.T[i].num,0,none⟩),J c1.bh] wv λe w'=>Zr e (mL (pn K.T[i] c1.bh))/\Hid (ai U w kb mb sb pb qb bb tb D ks G F m w')):=λF wv f=>by
  have⟨⟨V,h1,h2,k⟩,h4,u⟩:=id f;rw[n] at k;have r:=λx hx=>k.zN W (x:=x) hx;rw[e1] at r;refine(XJ (r 11 I) (r 12 I) (r 13 I) (r 14 I) (r 15 I) (World.block_lt_of_cell? wv _ (r 11 I)) c1.bh).m ?_;rintro e w' ⟨rfl,j⟩;exact⟨rfl,f.quiet j⟩
 have A:=Y (λF wv(f:ai U w kb mb sb pb qb bb tb D ks G F m wv)=>f.call (λV h=>p V wv h));have C5:Hid (∀F wv,ai U w kb mb sb pb qb bb tb D ks G F K wv->Zk 60 #[.agg #[O c1.kind,O c1.num,O c1.rights,J c1.bh,J c1.guard,O c1.aC,O c1.root,J c1.va],O 4] wv λe w'=>Zr e (.bool true)/\Hid (ai U w kb mb sb pb qb bb tb D ks G F K w')):=λF wv f=>by
  refine(aan d.r 4 I wv).m ?_;rintro e w' ⟨rfl,j⟩;exact⟨rfl,f.quiet j⟩
 generalize mL (pn K.T[i] c1.bh)=mv at z A;generalize G K.T[i].num=a at t X z A q|-;clear h hi d T p n W e1 BT;go_enter func234,ntmps234;go_wp2_with fail;refine t.j.m ?_;rintro e w2 ⟨rfl,H2⟩;clear t q;obtain⟨w3,B⟩:=Ze ((w2.alloc (.cells #[O s.1,O s.2] 45)).alloc (.cells #[O c1.kind,O c1.num,O c1.rights,J c1.bh,J c1.guard,O c1.aC,O c1.root,J c1.va] 84));obtain⟨b9,C⟩:=Ze (w2.heap.size);obtain⟨ub,N⟩:=Ze (w2.heap.size+1);obtain⟨F,hF⟩:∃F:List (Nat×Obj),F=[(ub,.cells (bj c1).toArray 84 (0,0)),(b9,.cells (eL s).toArray 45 (0,0))]:=⟨_,rfl⟩
 have H3:Hid (ai U w kb mb sb pb qb bb tb D ks G F K w3):=by
  have h9:=(H2.j.alloc (.cells #[O s.1,O s.2] 45 (0,0))).alloc (.cells #[O c1.kind,O c1.num,O c1.rights,J c1.bh,J c1.guard,O c1.aC,O c1.root,J c1.va] 84 (0,0));rw[show(w2.alloc (.cells #[O s.1,O s.2] 45 (0,0))).heap.size=w2.heap.size+1 by simp] at h9;rwa[B,hF,C,N]
 go_upto_region 2 with fail
 rw[<-B,<-N,<-C];clear B C N H2;have P:Hid (∀l wv,ai U w kb mb sb pb qb bb tb D ks G F l wv->wv.cell? (E ub 0)=some (O c1.kind)/\wv.cell? (E ub 1)=some (O c1.num)/\wv.cell? (E ub 2)=some (O c1.rights)/\wv.cell? (E ub 3)=some (J c1.bh)/\wv.cell? (E ub 4)=some (J c1.guard)/\wv.cell? (E ub 5)=some (O c1.aC)/\wv.cell? (E ub 6)=some (O c1.root)/\wv.cell? (E ub 7)=some (J c1.va)):=λl wv h=>by
  have hr:=h.at (b:=ub) (o:=.cells (bj c1).toArray 84 (0,0)) (hF▸List.mem_cons_self);exact⟨Zl hr,Zl hr,Zl hr,Zl hr,Zl hr,Zl hr,Zl hr,Zl hr⟩
 have⟨l0,l1,l2,l3,l4,l5,l6,l7⟩:=P.j _ _ H3.j;go_wp2_with fail;refine (Y (C5.j _ _ H3.j)).j.m ?_;rintro e w4 ⟨rfl,H4⟩;have⟨⟨gb,jj⟩,uE,u⟩:=X.j _ _ H4.j;have H5:=Y u;have⟨w5,eZ⟩:=Ze (w4.setCell (E a 37) (.bool true));rw[<-eZ] at H5;go_upto_region 5 with fail
 rw[<-eZ];have fg:=Y H5.j.drew;have Q:Hid (∀l wv,ai U w kb mb sb pb qb bb tb D ks G F l wv->Zc wv ub 1 (O c1.num)/\Zc wv ub 3 (J c1.bh)):=λl wv h=>⟨(P.j _ _ h).2.1,(P.j _ _ h).2.2.2.1⟩;have g:=Y (Q.j _ _ fg.j);refine sx (S:=(λwv=>wv.cell? (E ub 1)=some (O c1.num)/\wv.cell? (E ub 3)=some (J c1.bh))) 11 Zx Zg Zx ?_;simp only[jM,oC,List.setIfInBounds_toArray,List.set_cons_zero,List.set_cons_succ,List.size_toArray,List.length_cons,List.length_nil,Nat.zero_add,Nat.reduceAdd];refine Zt 0 g.j ?_;refine Zt 1 g.j ?_;refine Zt 2 g.j ?_;refine Zt 3 g.j ?_;refine Zt 4 g.j ?_;refine Zt 5 g.j ?_;refine Zt 6 g.j ?_;refine Zt 7 g.j ?_;refine Zt 8 g.j ?_;refine Zy 9 (λK R=>?_);refine dc rfl 236 #[Operand.tmp 37,Operand.tmp 39] #[106,27] rfl #[M a,J c1.bh] (by first|rfl|simp[Act.eval,go_sem]) (by simp[go_sem]) (z.j _ _ fg.j) ?_;rintro e w6 ⟨rfl,H6⟩;refine⟨_,rfl,?_⟩;refine Zb R (Y (Q.j _ _ H6.j)).j ?_;refine Zy 10 (λK R=>?_);refine dc rfl 62 #[Operand.tmp 31,Operand.tmp 32,Operand.tmp 35,Operand.tmp 36,Operand.tmp 40] #[53,106,3,3,172] rfl #[M kb,M a,O c1.num,O 3,mv] (by first|rfl|simp[Act.eval,go_sem]) (by simp[go_sem]) (A.j _ _ H6.j) ?_;rintro e w7 ⟨rfl,H7⟩;have aZ:=Y (Q.j _ _ H7.j);refine⟨_,rfl,?_⟩;refine Zb R aZ.j ?_;refine wpAnyH_take (i:=11) (v:=undef) Zg Zx Zx Zx (by exact λ_ _ _ h=>h) (Or.inr ⟨by rfl,rfl⟩) aZ.j ?_;refine wpAnyH_done Zx ?_ _;simp only[p8];go_wp2_with fail;all_goals
  go_ret;exact⟨rfl,H7.j.fin⟩
end
theorem aoC{Q:Ending->World->Prop}(d:Zk 234 #[M kb,M a,O 3] w Q)(hs:∀e w',Q e w'->Zr e (O 0)):Zk 154 #[M kb,M a] w Q:=by
 go_enter func154,ntmps154;go_wp2_with fail;refine (Y d).j.m ?_;intro e w2 b;obtain rfl:=(Y hs).j _ _ b;have c:=Y b;go_wp2_with fail;all_goals
  first|(go_ret;exact c.j)|exact c.j
section
variable {g:Nat}{c c1:Cp}{s:Sl}
theorem amW(h:aq U w kb mb sb pb qb bb tb D ks G K)(hi:i<K.T.length)(hf:da K.T K.T[i].num=some i)(f:O4 K.bs K.es K.T[i].num c c1 s)(ky:K.T[i].rg 10=0)(hl:K.b.ws.length<1000000)(r:uH K.b c1.num K.T[i].num true=lD):Zk 235 #[M kb,.pointer (some ⟨G K.T[i].num,0,none⟩),.bool true] w λx w'=>x=.returned (O 0)/\aq U w' kb mb sb pb qb bb tb D ks G (gj {K with b:=tC K.b c1.num K.T[i].num true} i 4)/\Zn U w w':=by
 have⟨Fu,BT⟩:=Ze (K.T[i].rg 10:Int);have rr:=h.zN hi (x:=10) I;rw[ky] at rr;have N:Hid (Zk 238 #[M kb,.pointer (some ⟨G K.T[i].num,0,none⟩),J 0,O 7,O 1] w λe w'=>Zr e (.tuple #[.agg #[O s.1,O s.2],.agg #[O c1.kind,O c1.num,O c1.rights,J c1.bh,J c1.guard,O c1.aC,O c1.root,J c1.va],O 0])/\Hid (ai U w kb mb sb pb qb bb tb D ks G [] K w')):=by
  refine(O9 (a:=0) ⟨h.x.c1,(h.zj hi).1⟩ (h.Cq f.g f.i0) (h.looks f.l f.i1 I) (h.Cq f.g1 f.i2) f.r f.k 1 I).m ?_;rintro e w' ⟨rfl,r⟩;exact⟨rfl,(ai.start h).quiet r⟩
 have⟨oc,oM⟩:=Ze (uH K.b c1.num K.T[i].num true);have⟨j,P⟩:=Ze ({K with b:=tC K.b c1.num K.T[i].num true}:Kn);have Q:j.T=K.T:=by rw[P]
 have iX:i<j.T.length:=by rw[Q];exact hi
 have t:j.T[i]=K.T[i]:=by simp only[Q]
 rw[<-oM] at r;rw[<-P];have⟨v,y⟩:=Ze (K);have R:Hid (∀F wv,ai U w kb mb sb pb qb bb tb D ks G F v wv->Zk 299 #[M bb,O c1.num,O K.T[i].num,.bool true] wv λx w'=>x=.returned (.agg (nz oc).toArray)/\Hid (ai U w kb mb sb pb qb bb tb D ks G F j w')):=λF wv n=>(y▸n).call (λV h=>by rw[P,oM];exact h.abp hl c1.num _ f.i3 f.i0 true rfl);have T:Hid (∀F k wv,ai U w kb mb sb pb qb bb tb D ks G F k wv->k=v\/k=j->Zc wv (G K.T[i].num) 0 (O K.T[i].num)):=λF k wv n hk=>by
  rcases hk with hk|hk
  ·rw[hk,y] at n;exact n.num hi
  rw[hk] at n;have:=n.num iX;rwa[t] at this
 have⟨z,dN⟩:=Ze (K.T[i].num);have⟨a,W⟩:=Ze (G K.T[i].num);rw[<-W] at T N rr;rw[<-dN] at T R;have aa:=Y y
 have dh:Hid (∀F wv,ai U w kb mb sb pb qb bb tb D ks G F j wv->Zk 61 #[M kb,M a,O 4] wv λe w'=>Zr e (.tuple #[])/\Hid (ai U w kb mb sb pb qb bb tb D ks G F (gj j i 4) w')):=λF wv h=>h.call (λV h=>by
  have A:=Hk h iX (by rw[t];exact f.i0) (by rw[t,Q];exact hf) 4;rw[t,<-W] at A
  exact A)
 rw[<-W];have u9:Hid (oc=lD):=r;rw[<-y] at N;clear h hi f ky hf hl r oM Q iX t W dN P BT y;go_enter func235,ntmps235;go_wp2_with fail;refine N.j.m ?_;rintro e w2 ⟨rfl,H2⟩;clear N rr;obtain⟨w3,cO⟩:=Ze ((w2.alloc (.cells #[O s.1,O s.2] 45)).alloc (.cells #[O c1.kind,O c1.num,O c1.rights,J c1.bh,J c1.guard,O c1.aC,O c1.root,J c1.va] 84));obtain⟨b9,mR⟩:=Ze (w2.heap.size);obtain⟨ub,aE⟩:=Ze (w2.heap.size+1);obtain⟨F,hF⟩:∃F:List (Nat×Obj),F=[(ub,.cells (bj c1).toArray 84 (0,0)),(b9,.cells (eL s).toArray 45 (0,0))]:=⟨_,rfl⟩
 have H3:Hid (ai U w kb mb sb pb qb bb tb D ks G F v w3):=by
  have A:=(H2.j.alloc (.cells #[O s.1,O s.2] 45 (0,0))).alloc (.cells #[O c1.kind,O c1.num,O c1.rights,J c1.bh,J c1.guard,O c1.aC,O c1.root,J c1.va] 84 (0,0));rw[show(w2.alloc (.cells #[O s.1,O s.2] 45 (0,0))).heap.size=w2.heap.size+1 by simp] at A;rw[cO,hF,mR,aE];exact A
 go_upto_region 2 with fail
 rw[<-cO,<-aE,<-mR];clear cO mR aE H2
 have E1:Hid (∀k wv,ai U w kb mb sb pb qb bb tb D ks G F k wv->wv.cell? (E ub 0)=some (O c1.kind)/\wv.cell? (E ub 1)=some (O c1.num)/\wv.cell? (E ub 2)=some (O c1.rights)/\wv.cell? (E ub 3)=some (J c1.bh)/\wv.cell? (E ub 4)=some (J c1.guard)/\wv.cell? (E ub 5)=some (O c1.aC)/\wv.cell? (E ub 6)=some (O c1.root)/\wv.cell? (E ub 7)=some (J c1.va)):=λk wv h=>by
  have hr:=h.at (b:=ub) (o:=.cells (bj c1).toArray 84 (0,0)) (by rw[hF];exact List.mem_cons_self);exact⟨Zl hr,Zl hr,Zl hr,Zl hr,Zl hr,Zl hr,Zl hr,Zl hr⟩
 have X:=H3;have dx:=Y X.j.drew
 have E3:Hid (∀F2 k wv,ai U w kb mb sb pb qb bb tb D ks G (F2++F) k wv->wv.cell? (E ub 1)=some (O c1.num)):=λF2 k wv h=>by
  have hr:=h.at (b:=ub) (o:=.cells (bj c1).toArray 84 (0,0)) (List.mem_append_right _ (by rw[hF];exact List.mem_cons_self));exact Zl hr
 have r8:Hid (∀F2 wv,ai U w kb mb sb pb qb bb tb D ks G (F2++F) v wv->Zc wv kb 4 (M bb)/\Zc wv a 0 (O z)/\Zc wv ub 1 (O c1.num)):=λF2 wv h=>⟨h.c.2.2.2.2.1,T.j _ _ _ h (Or.inl rfl),E3.j _ _ _ h⟩
 have p:Hid (∀F2 wv,ai U w kb mb sb pb qb bb tb D ks G (F2++F) j wv->Zc wv kb 4 (M bb)/\Zc wv a 0 (O z)/\Zc wv ub 1 (O c1.num)):=λF2 wv h=>⟨h.c.2.2.2.2.1,T.j _ _ _ h (Or.inr rfl),E3.j _ _ _ h⟩
 have d:=Y (r8.j [] _ dx.j);go_upto_region 4 with fail
 go_cut [10] from 27 to 40 (λCx wx=>∃cb,Cx=M cb/\Hid (ai U w kb mb sb pb qb bb tb D ks G ((cb,.cells (nz oc).toArray 244 (0,0))::F) j wx))
 case first=>
  refine lY (S:=(λwv=>wv.cell? (E kb 4)=some (M bb)/\wv.cell? (E a 0)=some (O z)/\wv.cell? (E ub 1)=some (O c1.num))) Zx ?_;simp only[List.size_toArray,List.length_cons,List.length_nil,Nat.zero_add,Nat.reduceAdd];refine Zt 0 d.j ?_;refine Zt 1 d.j ?_;refine Zt 2 d.j ?_;refine Zt 3 d.j ?_;refine Zt 4 d.j ?_;refine Zt 5 d.j ?_;refine Zt 6 d.j ?_;refine Zt 7 d.j ?_;refine Zt 8 d.j ?_;refine Zt 9 d.j ?_;refine Zt 10 d.j ?_;refine Zt 11 d.j ?_;refine wpAnyH_ready (rs:=[12,13]) Zx (by simp) ?_;refine(AllReadyH.cons Zg (λK g=>?_) (AllReadyH.cons Zg (λK g=>?_) AllReadyH.nil))
  ·as_aux_lemma=>
    refine dc rfl 299 #[Operand.tmp 30,Operand.tmp 33,Operand.tmp 37,Operand.tmp 38] #[95,3,3,4] rfl #[M bb,O c1.num,O z,.bool true] (by first|rfl|simp[Act.eval,go_sem]) (by simp[go_sem]) (R.j _ _ dx.j) ?_;rintro e dS ⟨rfl,q⟩;have dW:=Y (p.j [] _ q.j);refine⟨_,rfl,?_⟩;refine Zb g dW.j ?_;refine Zy 13 (λK g=>?_);go_simp;obtain⟨cb,l⟩:=Ze (dS.heap.size);obtain⟨gh,iv⟩:=Ze (dS.alloc (.cells #[O 0,O 0,J 0,J 0,J 0,J 0,J 0,J 0,.bool false,.bool false,.bool false] 244));have m:Hid (ai U w kb mb sb pb qb bb tb D ks G ((cb,.cells vv.toArray 244 (0,0))::F) j gh):=by rw[iv,l];exact(q.j.alloc _)
    have sf:=Y (lI q.j l);have cE:=Y (p.j [_] _ m.j);rw[<-iv,<-l];clear iv l;refine Zb g cE.j ?_;refine Zy 14 (λK g=>?_);refine Bg (.tmp 10) (.tmp 39) rfl rfl (u:=oc) (ub:=cb) (by simp[Act.eval]) (by simp[Act.eval]) (m.j.at List.mem_cons_self) ?_;have B:=Y (m.j.wL oc sf.j);have cV:=Y (p.j [_] _ B.j);refine Zb g cV.j ?_;refine wpAnyH_done Zx ?_ _
    go_wp2
    go_meet;exact⟨_,rfl,B⟩
  as_aux_lemma=>
   go_simp;obtain⟨cb,l⟩:=Ze (w3.heap.size);obtain⟨dS,iy⟩:=Ze ((w3.alloc (.cells #[O 0,O 0,J 0,J 0,J 0,J 0,J 0,J 0,.bool false,.bool false,.bool false] 244)).drew);have q:Hid (ai U w kb mb sb pb qb bb tb D ks G ((cb,.cells vv.toArray 244 (0,0))::F) v dS):=by rw[iy,l];exact(X.j.alloc _).drew
   have sf:=Y (lI X.j l);have dW:=Y (r8.j [_] _ q.j);rw[<-iy,<-l];clear iy l;refine Zb g dW.j ?_;refine Zy 12 (λK g=>?_);refine dc rfl 299 #[Operand.tmp 30,Operand.tmp 33,Operand.tmp 37,Operand.tmp 38] #[95,3,3,4] rfl #[M bb,O c1.num,O z,.bool true] (by first|rfl|simp[Act.eval,go_sem]) (by simp[go_sem]) (R.j _ _ q.j) ?_;rintro e gh ⟨rfl,m⟩;have cE:=Y (p.j [_] _ m.j);refine⟨_,rfl,?_⟩;refine Zb g cE.j ?_;refine Zy 14 (λK g=>?_);refine Bg (.tmp 10) (.tmp 39) rfl rfl (u:=oc) (ub:=cb) (by simp[Act.eval]) (by simp[Act.eval]) (m.j.at List.mem_cons_self) ?_;have B:=Y (m.j.wL oc sf.j);have cV:=Y (p.j [_] _ B.j);refine Zb g cV.j ?_;refine wpAnyH_done Zx ?_ _
   go_wp2
   go_meet;exact⟨_,rfl,B⟩
 case rest=>
  obtain⟨cb,rfl,H4⟩:=hcut;clear d dx X R r8 p E3 H3 E1;have aZ:=Y (dh.j _ _ H4.j);have C:=H4.j.oc (o:=oc) (b:=cb) List.mem_cons_self;have q8:=C.2.2.2.2.2.2.2.2.1;clear C;rw[u9.j] at q8;dsimp only[lD] at q8;go_wp2_with fail;refine aZ.j.m ?_;rintro e w5 ⟨rfl,H5⟩;clear q8;have C:=H5.j.oc (o:=oc) (b:=cb) List.mem_cons_self;have q0:=C.1;clear C;rw[u9.j] at q0;dsimp only[lD] at q0;go_wp2_with fail
  all_goals
   go_ret;exact⟨rfl,H5.j.fin⟩
end
section
variable {sd g:Nat}{c c1:Cp}{s:Sl}
theorem amX(h:aq U w kb mb sb pb qb bb tb D ks G K)(hi:i<K.T.length)(hs:sd<K.T.length)(aH:i≠sd)(hf:da K.T K.T[i].num=some i)(FQ:af K.T[sd].num)(Cd:da K.T K.T[sd].num=some sd)(h0:K.T[i].num≠ -1/\K.T[sd].num≠ -1)(Ej:K.T[i].dV= -1)(qM:K.T[sd].rg 16=4294967295)(k:O4 K.bs K.es K.T[i].num c c1 s)(ky:K.T[i].rg 10=0)(hl:K.b.ws.length<1000000)(m)(p:uH K.b c1.num K.T[i].num true=yG K.T[sd].num 3 m):Zk 235 #[M kb,.pointer (some ⟨G K.T[i].num,0,none⟩),.bool true] w λx w'=>x=.returned (O 0)/\aq U w' kb mb sb pb qb bb tb D ks G (oE {K with b:=tC K.b c1.num K.T[i].num true} sd i m)/\Zn U w w':=by
 have⟨Fu,BT⟩:=Ze (K.T[i].rg 10:Int);have rr:=h.zN hi (x:=10) I;rw[ky] at rr;have X:Hid (Zk 238 #[M kb,.pointer (some ⟨G K.T[i].num,0,none⟩),J 0,O 7,O 1] w λe w'=>Zr e (.tuple #[.agg #[O s.1,O s.2],.agg #[O c1.kind,O c1.num,O c1.rights,J c1.bh,J c1.guard,O c1.aC,O c1.root,J c1.va],O 0])/\Hid (ai U w kb mb sb pb qb bb tb D ks G [] K w')):=by
  refine(O9 (a:=0) ⟨h.x.c1,(h.zj hi).1⟩ (h.Cq k.g k.i0) (h.looks k.l k.i1 I) (h.Cq k.g1 k.i2) k.r k.k 1 I).m ?_;rintro e w' ⟨rfl,p⟩;exact⟨rfl,(ai.start h).quiet p⟩
 have⟨oc,oM⟩:=Ze (uH K.b c1.num K.T[i].num true);have⟨f,cK⟩:=Ze ({K with b:=tC K.b c1.num K.T[i].num true}:Kn);have q:f.T=K.T:=by rw[cK]
 have iX:i<f.T.length:=by rw[q];exact hi
 have r:f.T[i]=K.T[i]:=by simp only[q]
 rw[<-oM] at p;rw[<-cK];have⟨P,Q⟩:=Ze (K);have AX:Hid (∀F wv,ai U w kb mb sb pb qb bb tb D ks G F P wv->Zk 299 #[M bb,O c1.num,O K.T[i].num,.bool true] wv λx w'=>x=.returned (.agg (nz oc).toArray)/\Hid (ai U w kb mb sb pb qb bb tb D ks G F f w')):=λF wv y=>(Q▸y).call (λV h=>by rw[cK,oM];exact h.abp hl c1.num _ k.i3 k.i0 true rfl);have js:Hid (∀F g wv,ai U w kb mb sb pb qb bb tb D ks G F g wv->g=P\/g=f->Zc wv (G K.T[i].num) 0 (O K.T[i].num)):=λF g wv y hk=>by
  rcases hk with hk|hk
  ·rw[hk,Q] at y;exact y.num hi
  rw[hk] at y;have:=y.num iX;rwa[r] at this
 have⟨R,dN⟩:=Ze (K.T[i].num);obtain⟨a,gv⟩:=Ze (G K.T[i].num);rw[<-gv] at js X rr;rw[<-dN] at js AX;have aa:=Y Q;have gD:sd<f.T.length:=by rw[q];exact hs
 have z:f.T[sd]=K.T[sd]:=by simp only[q]
 have hm:oc.m=m:=by rw[p];rfl
 have qV:Hid (∀F wv,ai U w kb mb sb pb qb bb tb D ks G F f wv->Zk 105 #[M kb,.pointer (some ⟨G K.T[sd].num,0,none⟩),M a,.agg #[O oc.err,O oc.peer,J oc.m.ak,J oc.m.w0,J oc.m.w1,J oc.m.w2,J oc.m.w3,J oc.m.aQ,.bool oc.wt,.bool oc.ask,.bool oc.ft]] wv λe w'=>Zr e (.tuple #[])/\Hid (ai U w kb mb sb pb qb bb tb D ks G F (oE f sd i m) w')):=λF wv h=>h.call (λV h=>by
  have T:=XK h iX gD aH (by rw[r,q];exact hf) (by rw[z,q];exact Cd) (by rw[r];exact k.i0) (by rw[z];exact FQ) (by rw[z,r];exact h0) (by rw[r];exact Ej) (by rw[z];exact qM) oc (by rw[p];exact⟨rfl,rfl,rfl,rfl⟩);rw[r,z,<-gv,hm] at T
  exact T)
 have fJ:Hid (∀F wv,ai U w kb mb sb pb qb bb tb D ks G F f wv->(Instr.lookup 96 (.map (some tb)) (O oc.peer) false).run prog wv=.ok (.pointer (some ⟨G K.T[sd].num,0,none⟩)) wv):=λF wv h=>by
  have hp:oc.peer=K.T[sd].num:=by rw[p];rfl
  rw[hp];exact h.look FQ (j:=sd) (by rw[q];exact Cd)
 rw[<-gv];have u9:Hid (oc.err=0/\oc.wt=false):=by rw[p];exact⟨rfl,rfl⟩
 generalize G K.T[sd].num=gb at qV fJ;rw[<-Q] at X;clear h hi k ky hf hl p oM q iX r gv dN cK BT Q hs aH FQ Cd h0 Ej qM gD z hm;go_enter func235,ntmps235;go_wp2_with fail;refine X.j.m ?_;rintro e w2 ⟨rfl,H2⟩;clear X rr;obtain⟨w3,cO⟩:=Ze ((w2.alloc (.cells #[O s.1,O s.2] 45)).alloc (.cells #[O c1.kind,O c1.num,O c1.rights,J c1.bh,J c1.guard,O c1.aC,O c1.root,J c1.va] 84));obtain⟨b9,mR⟩:=Ze (w2.heap.size);obtain⟨ub,aE⟩:=Ze (w2.heap.size+1);obtain⟨F,hF⟩:∃F:List (Nat×Obj),F=[(ub,.cells (bj c1).toArray 84 (0,0)),(b9,.cells (eL s).toArray 45 (0,0))]:=⟨_,rfl⟩
 have H3:Hid (ai U w kb mb sb pb qb bb tb D ks G F P w3):=by
  have T:=(H2.j.alloc (.cells #[O s.1,O s.2] 45 (0,0))).alloc (.cells #[O c1.kind,O c1.num,O c1.rights,J c1.bh,J c1.guard,O c1.aC,O c1.root,J c1.va] 84 (0,0));rw[show(w2.alloc (.cells #[O s.1,O s.2] 45 (0,0))).heap.size=w2.heap.size+1 by simp] at T;rw[cO,hF,mR,aE];exact T
 go_upto_region 2 with fail
 rw[<-cO,<-aE,<-mR];clear cO mR aE H2
 have E1:Hid (∀g wv,ai U w kb mb sb pb qb bb tb D ks G F g wv->wv.cell? (E ub 0)=some (O c1.kind)/\wv.cell? (E ub 1)=some (O c1.num)/\wv.cell? (E ub 2)=some (O c1.rights)/\wv.cell? (E ub 3)=some (J c1.bh)/\wv.cell? (E ub 4)=some (J c1.guard)/\wv.cell? (E ub 5)=some (O c1.aC)/\wv.cell? (E ub 6)=some (O c1.root)/\wv.cell? (E ub 7)=some (J c1.va)):=λg wv h=>by
  have hr:=h.at (b:=ub) (o:=.cells (bj c1).toArray 84 (0,0)) (by rw[hF];exact List.mem_cons_self);exact⟨Zl hr,Zl hr,Zl hr,Zl hr,Zl hr,Zl hr,Zl hr,Zl hr⟩
 have eU:=H3;have A:=Y eU.j.drew
 have E3:Hid (∀F2 g wv,ai U w kb mb sb pb qb bb tb D ks G (F2++F) g wv->wv.cell? (E ub 1)=some (O c1.num)):=λF2 g wv h=>by
  have hr:=h.at (b:=ub) (o:=.cells (bj c1).toArray 84 (0,0)) (List.mem_append_right _ (by rw[hF];exact List.mem_cons_self));exact Zl hr
 have r8:Hid (∀F2 wv,ai U w kb mb sb pb qb bb tb D ks G (F2++F) P wv->Zc wv kb 4 (M bb)/\Zc wv a 0 (O R)/\Zc wv ub 1 (O c1.num)):=λF2 wv h=>⟨h.c.2.2.2.2.1,js.j _ _ _ h (Or.inl rfl),E3.j _ _ _ h⟩
 have B:Hid (∀F2 wv,ai U w kb mb sb pb qb bb tb D ks G (F2++F) f wv->Zc wv kb 4 (M bb)/\Zc wv a 0 (O R)/\Zc wv ub 1 (O c1.num)):=λF2 wv h=>⟨h.c.2.2.2.2.1,js.j _ _ _ h (Or.inr rfl),E3.j _ _ _ h⟩
 have d:=Y (r8.j [] _ A.j);go_upto_region 4 with fail
 go_cut [10] from 27 to 40 (λCx wx=>∃cb,Cx=M cb/\Hid (ai U w kb mb sb pb qb bb tb D ks G ((cb,.cells (nz oc).toArray 244 (0,0))::F) f wx))
 case first=>
  refine lY (S:=(λwv=>wv.cell? (E kb 4)=some (M bb)/\wv.cell? (E a 0)=some (O R)/\wv.cell? (E ub 1)=some (O c1.num))) Zx ?_;simp only[List.size_toArray,List.length_cons,List.length_nil,Nat.zero_add,Nat.reduceAdd];refine Zt 0 d.j ?_;refine Zt 1 d.j ?_;refine Zt 2 d.j ?_;refine Zt 3 d.j ?_;refine Zt 4 d.j ?_;refine Zt 5 d.j ?_;refine Zt 6 d.j ?_;refine Zt 7 d.j ?_;refine Zt 8 d.j ?_;refine Zt 9 d.j ?_;refine Zt 10 d.j ?_;refine Zt 11 d.j ?_;refine wpAnyH_ready (rs:=[12,13]) Zx (by simp) ?_;refine(AllReadyH.cons Zg (λK l=>?_) (AllReadyH.cons Zg (λK l=>?_) AllReadyH.nil))
  ·as_aux_lemma=>
    refine dc rfl 299 #[Operand.tmp 30,Operand.tmp 33,Operand.tmp 37,Operand.tmp 38] #[95,3,3,4] rfl #[M bb,O c1.num,O R,.bool true] (by first|rfl|simp[Act.eval,go_sem]) (by simp[go_sem]) (AX.j _ _ A.j) ?_;rintro e dS ⟨rfl,C⟩;have dW:=Y (B.j [] _ C.j);refine⟨_,rfl,?_⟩;refine Zb l dW.j ?_;refine Zy 13 (λK l=>?_);go_simp;obtain⟨cb,n⟩:=Ze (dS.heap.size);obtain⟨gh,iv⟩:=Ze (dS.alloc (.cells #[O 0,O 0,J 0,J 0,J 0,J 0,J 0,J 0,.bool false,.bool false,.bool false] 244));have t:Hid (ai U w kb mb sb pb qb bb tb D ks G ((cb,.cells vv.toArray 244 (0,0))::F) f gh):=by rw[iv,n];exact(C.j.alloc _)
    have sf:=Y (lI C.j n);have cE:=Y (B.j [_] _ t.j);rw[<-iv,<-n];clear iv n;refine Zb l cE.j ?_;refine Zy 14 (λK l=>?_);refine Bg (.tmp 10) (.tmp 39) rfl rfl (u:=oc) (ub:=cb) (by simp[Act.eval]) (by simp[Act.eval]) (t.j.at List.mem_cons_self) ?_;have W:=Y (t.j.wL oc sf.j);have cV:=Y (B.j [_] _ W.j);refine Zb l cV.j ?_;refine wpAnyH_done Zx ?_ _
    go_wp2
    go_meet;exact⟨_,rfl,W⟩
  as_aux_lemma=>
   go_simp;obtain⟨cb,n⟩:=Ze (w3.heap.size);obtain⟨dS,iy⟩:=Ze ((w3.alloc (.cells #[O 0,O 0,J 0,J 0,J 0,J 0,J 0,J 0,.bool false,.bool false,.bool false] 244)).drew);have C:Hid (ai U w kb mb sb pb qb bb tb D ks G ((cb,.cells vv.toArray 244 (0,0))::F) P dS):=by rw[iy,n];exact(eU.j.alloc _).drew
   have sf:=Y (lI eU.j n);have dW:=Y (r8.j [_] _ C.j);rw[<-iy,<-n];clear iy n;refine Zb l dW.j ?_;refine Zy 12 (λK l=>?_);refine dc rfl 299 #[Operand.tmp 30,Operand.tmp 33,Operand.tmp 37,Operand.tmp 38] #[95,3,3,4] rfl #[M bb,O c1.num,O R,.bool true] (by first|rfl|simp[Act.eval,go_sem]) (by simp[go_sem]) (AX.j _ _ C.j) ?_;rintro e gh ⟨rfl,t⟩;have cE:=Y (B.j [_] _ t.j);refine⟨_,rfl,?_⟩;refine Zb l cE.j ?_;refine Zy 14 (λK l=>?_);refine Bg (.tmp 10) (.tmp 39) rfl rfl (u:=oc) (ub:=cb) (by simp[Act.eval]) (by simp[Act.eval]) (t.j.at List.mem_cons_self) ?_;have W:=Y (t.j.wL oc sf.j);have cV:=Y (B.j [_] _ W.j);refine Zb l cV.j ?_;refine wpAnyH_done Zx ?_ _
   go_wp2
   go_meet;exact⟨_,rfl,W⟩
 case rest=>
  obtain⟨cb,rfl,H4⟩:=hcut;clear d A eU AX r8 B E3 H3 E1;have N:=H4.j.oc (o:=oc) (b:=cb) List.mem_cons_self;have q0:=N.1;have q8:=N.2.2.2.2.2.2.2.2.1;clear N;rw[u9.j.1] at q0;rw[u9.j.2] at q8;go_upto_region 8 with fail
  have A:=Y H4.j.drew
  have av:Hid (∀g wv,ai U w kb mb sb pb qb bb tb D ks G ((cb,.cells (nz oc).toArray 244 (0,0))::F) g wv->g=f->wv.cell? (E kb 5)=some (.map (some tb))/\(Instr.lookup 96 (.map (some tb)) (O oc.peer) false).run prog wv=.ok (M gb) wv/\wv.cell? (E cb 0)=some (O oc.err)/\wv.cell? (E cb 1)=some (O oc.peer)/\wv.cell? (E cb 2)=some (J oc.m.ak)/\wv.cell? (E cb 3)=some (J oc.m.w0)/\wv.cell? (E cb 4)=some (J oc.m.w1)/\wv.cell? (E cb 5)=some (J oc.m.w2)/\wv.cell? (E cb 6)=some (J oc.m.w3)/\wv.cell? (E cb 7)=some (J oc.m.aQ)/\wv.cell? (E cb 8)=some (.bool oc.wt)/\wv.cell? (E cb 9)=some (.bool oc.ask)/\wv.cell? (E cb 10)=some (.bool oc.ft)):=λg wv h hk=>by
   subst hk;exact⟨h.c.2.2.2.2.2,fJ.j _ _ h,h.oc List.mem_cons_self⟩
  have d:=Y (av.j _ _ A.j rfl);have Lk:=Y (qV.j _ _ A.j);clear q0 q8;refine sx (S:=(λwv=>wv.cell? (E kb 5)=some (.map (some tb))/\(Instr.lookup 96 (.map (some tb)) (O oc.peer) false).run prog wv=.ok (M gb) wv/\wv.cell? (E cb 0)=some (O oc.err)/\wv.cell? (E cb 1)=some (O oc.peer)/\wv.cell? (E cb 2)=some (J oc.m.ak)/\wv.cell? (E cb 3)=some (J oc.m.w0)/\wv.cell? (E cb 4)=some (J oc.m.w1)/\wv.cell? (E cb 5)=some (J oc.m.w2)/\wv.cell? (E cb 6)=some (J oc.m.w3)/\wv.cell? (E cb 7)=some (J oc.m.aQ)/\wv.cell? (E cb 8)=some (.bool oc.wt)/\wv.cell? (E cb 9)=some (.bool oc.ask)/\wv.cell? (E cb 10)=some (.bool oc.ft))) 10 Zx Zg Zx ?_;simp only[jM,oC,List.setIfInBounds_toArray,List.set_cons_zero,List.set_cons_succ,List.size_toArray,List.length_cons,List.length_nil,Nat.zero_add,Nat.reduceAdd];refine Zt 0 d.j ?_;refine Zt 1 d.j ?_;refine Zt 2 d.j ?_;refine Zt 3 d.j ?_;refine Zt 4 d.j ?_;refine Zt 5 d.j ?_;refine Zt 6 d.j ?_;refine Zt 7 d.j ?_;refine Zt 8 d.j ?_;refine Zt 9 d.j ?_;refine wpAnyH_take (i:=10) (v:=undef) Zg Zx Zx Zx (by exact λ_ _ _ h=>h) (Or.inr ⟨by rfl,rfl⟩) d.j ?_;refine wpAnyH_done Zx ?_ _;simp only[p8];go_wp2_with fail;refine Lk.j.m ?_;rintro e w5 ⟨rfl,H5⟩;have N:=H5.j.oc (o:=oc) (b:=cb) List.mem_cons_self;have q0:=N.1;clear N;rw[u9.j.1] at q0;go_wp2_with fail
  all_goals
   go_ret;exact⟨rfl,H5.j.fin⟩
end
theorem aax{Q:Ending->World->Prop}(d:Zk 235 #[M kb,M a,.bool true] w Q)(hs:∀e w',Q e w'->Zr e (O 0)):Zk 155 #[M kb,M a] w Q:=by
 go_enter func155,ntmps155;go_wp2_with fail;refine (Y d).j.m ?_;intro e w2 b;obtain rfl:=(Y hs).j _ _ b;have c:=Y b;go_wp2_with fail;all_goals
  first|(go_ret;exact c.j)|exact c.j
section
variable {K2:Kn}{c:Nat}
theorem agw(h:aq U w kb mb sb pb qb bb tb D ks G K)(hi:i<K.T.length)(d:c<K.T.length)(v:i≠c)(m:K.T[i].dV=K.T[c].num)(R:K.T[c].num≠ -1)(S:K.T[c].st=5)(T:af K.T[c].num)(V:da K.T K.T[c].num=some c):Zk 157 #[M kb,.pointer (some ⟨G K.T[i].num,0,none⟩)] w λx w'=>x=.returned (O 0)/\aq U w' kb mb sb pb qb bb tb D ks G (vC K i c)/\Zn U w w':=by
 have z:w.cell? ⟨G K.T[i].num,35,none⟩=some (.pointer (some ⟨G K.T[c].num,0,none⟩)):=by
  rw[cell_of_row _ _ 35 _ _ (0,0) (h.th hi),(zI G _).2.1,m];unfold lx;rw[if_neg R]
 have f35:=fX (h.th hi) 35;have⟨n,A⟩:=h.GB hi 35 (.pointer none) (y:={K.T[i] with dV:= -1}) rfl (Hv G _ (-1) true).1;have⟨w1,s⟩:=Ze (w.setCell ⟨G K.T[i].num,35,none⟩ (.pointer none));rw[<-s] at n A;have⟨f,g⟩:=Ze (ba K i {K.T[i] with dV:= -1});rw[<-g] at n;have l1:f.T.length=K.T.length:=g▸km _ _ _
 have j:c<f.T.length:=l1▸d
 have B:i<f.T.length:=l1▸hi
 have e1:f.T[c]=K.T[c]:=by rw[<-dQ j,g,lG hi,if_neg (λe=>v e.symm),dQ d]
 have o:f.T[i]={K.T[i] with dV:= -1}:=by rw[<-dQ B,g,lG hi,if_pos rfl]
 have qg:=n.th j;rw[e1] at qg;have C:=(cell_of_row _ _ 36 _ _ (0,0) (h.th d)).trans (zI G _).2.2.1;have f36:=fX (h.th d) 36;have⟨k,o2⟩:=n.GB j 36 (.pointer none) (y:={K.T[c] with dD:= -1}) (e1▸rfl) (by rw[e1];exact(Hv G _ (-1) true).2.1);rw[e1] at k o2;have⟨w2,t⟩:=Ze (w1.setCell ⟨G K.T[c].num,36,none⟩ (.pointer none));rw[<-t] at k o2;have⟨K2,l⟩:=Ze (ba f c {K.T[c] with dD:= -1});rw[<-l] at k;have F:K2.T.length=K.T.length:=by rw[l,km];exact l1
 have u:c<K2.T.length:=by rw[F];exact d
 have N:i<K2.T.length:=by rw[F];exact hi
 have p:K2.T[c]={K.T[c] with dD:= -1}:=by rw[<-dQ u,l,lG j,if_pos rfl]
 have q:K2.T[i]={K.T[i] with dV:= -1}:=by rw[<-dQ N,l,lG j,if_neg v,dQ B,o]
 have n2:K2.T.map (·.num)=K.T.map (·.num):=by
  rw[l];show(f.T.set c _).map _=_;rw[Dt j (by rw[e1]),g];exact Dt hi rfl
 have f2:da K2.T K2.T[c].num=some c:=by rw[p];exact(LX n2 _).trans V
 have s1:w2.cell? ⟨G K.T[c].num,1,none⟩=some (O 5):=by
  have:=(k.zj u).2.1;rw[p] at this;rwa[<-S]
 have P:Hid (Zk 236 #[.pointer (some ⟨G K.T[i].num,0,none⟩),J 0] w2 λe w'=>Zr e (mL (pn K.T[i] 0))/\Zq w2 w'):=by
  have r:=λx X=>k.zN N (x:=x) X;rw[q] at r;exact XJ (r 11 I) (r 12 I) (r 13 I) (r 14 I) (r 15 I) (World.block_lt_of_cell? w2 _ (r 11 I)) 0
 have Q:Hid (∀wv,Zq w2 wv->Zk 189 #[M kb,.pointer (some ⟨G K.T[c].num,0,none⟩),mL (pn K.T[i] 0)] wv λe w'=>Zr e (.tuple #[])/\Hid (aq U w' kb mb sb pb qb bb tb D ks G (vC K i c)/\Zn U w w')):=λwv hv=>by
  have W:=abw (k.quiet hv) u (by rw[p];exact T) f2 (pn K.T[i] 0);rw[p] at W;refine W.m ?_;rintro e w' ⟨rfl,h7,h8⟩;refine⟨rfl,?_,(A.trans o2).trans ((hv.f).trans h8)⟩;have e9:vC K i c=kh K2 c (pn K.T[i] 0):=by
   unfold vC;rw[dQ hi,dQ d,l,g]
  rwa[e9]
 generalize mL (pn K.T[i] 0)=mv at P Q;generalize G K.T[i].num=a at z f35 s P|-;generalize G K.T[c].num=b at z C f36 t s1 Q;generalize lx G K.T[c].dD=v36 at C;clear h hi d v m R S T V n A g l1 j B e1 o qg k o2 l F u N p q n2 f2;go_enter func157,ntmps157;go_upto_region 6 with fail
 rw[<-s,<-t];clear s t z f35 C f36;go_wp2_with fail;refine P.j.m ?_;rintro e w3 ⟨rfl,aA⟩;go_wp2_with fail;refine (Y (Q.j _ aA)).j.m ?_;rintro e w4 ⟨rfl,H4⟩;go_wp2_with fail;all_goals
  go_ret;exact⟨rfl,H4.j⟩
end
theorem afE{Q:Ending->World->Prop}(hr:Zk 157 #[M kb,M a] w λx w'=>x=.returned (O 0)/\Zk 155 #[M kb,M a] w' Q)(hs:∀e w',Q e w'->Zr e (O 0)):Zk 158 #[M kb,M a] w Q:=by
 go_enter func158,ntmps158;go_wp2_with fail;refine (Y hr).j.m ?_;rintro e w2 ⟨rfl,b⟩;go_wp2_with fail;refine (Y b).j.m ?_;intro e w3 b;obtain rfl:=(Y hs).j _ _ b;have c:=Y b;go_wp2_with fail;all_goals
  first|(go_ret;exact c.j)|exact c.j
def ph:List Value:=[.nilFunc,.func (.func 152) #[] #[],.func (.func 153) #[] #[],.func (.func 154) #[] #[],.func (.func 155) #[] #[],.func (.func 156) #[] #[],.func (.func 157) #[] #[],.func (.func 158) #[] #[],.func (.func 159) #[] #[],.func (.func 160) #[] #[],.func (.func 161) #[] #[],.func (.func 162) #[] #[],.func (.func 163) #[] #[],.func (.func 164) #[] #[],.func (.func 165) #[] #[],.func (.func 166) #[] #[],.func (.func 167) #[] #[],.func (.func 168) #[] #[],.func (.func 169) #[] #[],.func (.func 170) #[] #[],.func (.func 171) #[] #[],.func (.func 172) #[] #[],.func (.func 173) #[] #[],.func (.func 174) #[] #[],.func (.func 175) #[] #[],.func (.func 176) #[] #[],.func (.func 177) #[] #[],.func (.func 178) #[] #[],.func (.func 179) #[] #[],.func (.func 180) #[] #[]]
def E8:List Value:=[.nilFunc,.nilFunc,.nilFunc,.nilFunc,.nilFunc,.nilFunc,.nilFunc,.nilFunc,.nilFunc,.nilFunc,.nilFunc,.nilFunc,.nilFunc,.nilFunc,.nilFunc,.nilFunc,.nilFunc,.nilFunc,.nilFunc,.nilFunc,.nilFunc,.nilFunc,.nilFunc,.nilFunc,.nilFunc,.nilFunc,.nilFunc,.nilFunc,.nilFunc,.nilFunc]
theorem Yn:(prog.info? 240).map (·.size)=some 30:=Zx
theorem adi:∀v∈ph,v.oneCell'=true:=I
theorem af9{K:Act->World->Prop}(x y)(b:o.op=.store 240 x y)(c:o.dst=none)(d:act.eval x=M ub)(hy:act.eval y=.agg ph.toArray)(a:w.heap[ub]?=some (.cells E8.toArray 240 (0,0)))(h:K act (w.setCells ub 0 ph)):Oper.wp prog o act w K Q:=by
 have ht:w.there ub 0 ph.toArray.size:=λj e=>by
  refine⟨?_,fX a _⟩;rw[Nat.zero_add,cell_of_row _ _ j _ _ (0,0) a,List.getElem?_toArray,List.getElem?_eq_getElem (show j<E8.length from e)];rfl
 refine wp_store_mid 240 x y b ub 0 _ d hy ht (by rw[Yn];rfl) (all_oneCell_toArray adi) ?_;rwa[c]
theorem ad7(w):Zk 101 #[] w λe w'=>Zr e (.agg ph.toArray)/\Zq w w':=by
 have⟨w1,a⟩:=Ze (w.alloc (.cells E8.toArray 240));have⟨rb,c⟩:=Ze (w.heap.size);have d:Hid (w1.heap[rb]?=some (.cells E8.toArray 240 (0,0))):=by rw[a,c];exact heap_alloc_last w _
 have f:Hid (Zq w w1):=by rw[a];exact(H.refl _ w).alloc _
 have⟨h,i⟩:=vB ph [] E8 w1 rfl d.j;have g:Hid ((w1.setCells rb 0 ph).heap[rb]?=some (.cells ph.toArray 240 (0,0))/\Zq w (w1.setCells rb 0 ph)):=⟨h,f.j.beyond i (λk hk=>by subst hk;omega)⟩;unfold E8 at a;go_enter func101,ntmps101;go_upto_region 1 with fail
 rw[<-a,<-c];clear a c f;go_wp2_with (refine wpList_plain rfl (λ_ j=>af9 (.tmp 0) (.tmp 1) rfl rfl (ub:=rb) (by simp[Act.eval]) (by simp[Act.eval,ph]) d.j (j _ _ ?_)));refine bodyPost_ret (v:=.agg ph.toArray) ?_ rfl ⟨rfl,g.j.2⟩;have b:=run_loadVar_row (P:=prog) (w1.setCells rb 0 ph) rb 240 240 ph.toArray (0,0) _ g.j.1 underlying240 rfl Yn;generalize ph.toArray=z at b|-;generalize w1.setCells rb 0 ph=w9 at b|-;simp[results,results101,b];exact b
theorem ad8(hk:w.cell? (E kb 54)=some (J 4094))(n f)(hn:(n=3/\f=154)\/(n=4/\f=155)\/(n=7/\f=158)):Zk 58 #[M kb,J n] w λe w'=>Zr e (.func (.func f) #[] #[])/\Zq w w':=by
 have a:∀wv:Z0,(Instr.index 240 (.agg ph.toArray) (J n)).run prog wv=.ok (.func (.func f) #[] #[]) wv:=λwv=>by
  rcases hn with⟨rfl,rfl⟩|⟨rfl,rfl⟩|⟨rfl,rfl⟩<;>kernel_rfl
 rcases hn with⟨rfl,rfl⟩|⟨rfl,rfl⟩|⟨rfl,rfl⟩
 all_goals
  go_enter func58,ntmps58;go_wp2_with fail;refine(ad7 w).m ?_;rintro e w2 ⟨rfl,b⟩;generalize ph.toArray=z at a|-;go_wp2_with fail
  all_goals
   go_ret;exact⟨rfl,(Y b).j⟩
theorem Yg{st:Int}(h:w.cell? (E a 1)=some (O st))(b)(hb:(st=1/\b=false)\/((st=3\/st=4\/st=5)/\b=true)):Zk 59 #[M a] w λe w'=>Zr e (.bool b)/\w'=w:=by
 rcases hb with⟨rfl,rfl⟩|⟨rfl|rfl|rfl,rfl⟩
 all_goals
  go_enter func59,ntmps59;go_wp2_with fail;all_goals
   go_ret;exact⟨rfl,rfl⟩
section
variable {c:Nat}
theorem aq.cc(h:aq U w kb mb sb pb qb bb tb D ks G K)(i:K.L.length=8)(j:K.ci=List.replicate 8 [])(k:K.co=List.replicate 8 []):w.cell? (E kb 54)=some (J (K.c:Int)):=by
 rw[cell_of_row _ _ 54 _ _ (0,0) h.x.k,List.getElem?_toArray];have⟨L,g⟩:=Ze (K.L);rw[<-g] at i|-
 obtain⟨l0,l1,a,b,c,d,e,f,rfl⟩:∃l0 l1 a b c d e f,L=[l0,l1,a,b,c,d,e,f]:=by
  match L,i with
  |[l0,l1,a,b,c,d,e,f],_=>exact⟨l0,l1,a,b,c,d,e,f,rfl⟩
 rw[j,k];rfl
end
theorem aoB(h:aq U w kb mb sb pb qb bb tb D ks G K)(hi:i<K.T.length)(hk:w.cell? (E kb 54)=some (J 4094))(n:Int)(f:FuncId)(v:K.T[i].rg 17=n)(hn:(n=3/\f=154)\/(n=4/\f=155)\/(n=7/\f=158))(hw:∀V wv,aq V wv kb mb sb pb qb bb tb D ks G K->Zk f #[M kb,.pointer (some ⟨G K.T[i].num,0,none⟩)] wv λx w'=>x=.returned (O 0)/\aq V w' kb mb sb pb qb bb tb D ks G KE/\Zn V wv w')(b:i<KE.T.length)(y:KE.T[i].num=K.T[i].num)(P:(KE.T[i].st=1/\KE.T[i].rg 10=0)\/KE.T[i].st=3\/KE.T[i].st=4\/KE.T[i].st=5):Zk 20 #[M kb,.pointer (some ⟨G K.T[i].num,0,none⟩)] w λx w'=>x=.returned (.tuple #[O n,O 0])/\aq U w' kb mb sb pb qb bb tb D ks G KE/\Zn U w w':=by
 have k:=h.zN hi (x:=17) I;rw[v] at k;have l:Hid (Zk 58 #[M kb,J n] w λe w'=>Zr e (.func (.func f) #[] #[])/\Hid (ai U w kb mb sb pb qb bb tb D ks G [] K w')):=by
  refine(ad8 hk n f hn).m ?_;rintro e w' ⟨rfl,Q⟩;exact⟨rfl,(ai.start h).quiet Q⟩
 have m:=Y (λwv(d:ai U w kb mb sb pb qb bb tb D ks G [] K wv)=>d.call (λV h=>hw V wv h));have o:Hid (∀wv,ai U w kb mb sb pb qb bb tb D ks G [] KE wv->wv.cell? ⟨G K.T[i].num,1,none⟩=some (O KE.T[i].st)/\wv.cell? ⟨G K.T[i].num,12,none⟩=some (J (KE.T[i].rg 10))/\wv.frozen? ⟨G K.T[i].num,12,none⟩=false/\ai U w kb mb sb pb qb bb tb D ks G [] (ba KE i {KE.T[i] with rg:=bG KE.T[i].rg 10 0}) (wv.setCell ⟨G K.T[i].num,12,none⟩ (J 0))):=λwv d=>by
  have⟨⟨V,h1,S,z⟩,_,_⟩:=id d;have p:=(z.zj b).2;have a2:=z.zN b (x:=10) I;have a3:=d.on (λV h=>h.Wo b (x:=10) I 0);rw[y] at p a2 a3;exact⟨p.1,a2,p.2 12,a3⟩
 have T:∀wv:Z0,(binOp .eql 165 (.func (.func f) #[] #[]) .nilFunc).run prog wv=.ok (.bool false) wv:=λwv=>Zx;generalize G K.T[i].num=a at l m o k|-
 have c:KE.T[i].rg 10=0->ba KE i {KE.T[i] with rg:=bG KE.T[i].rg 10 0}=KE:=λg=>by
  refine U4 b ?_;rw[dQ b];have:bG KE.T[i].rg 10 0=KE.T[i].rg:=by
   funext x;unfold bG;split
   ·rename_i R;rw[R,g]
   rfl
  rw[this]
 have q:=Y c;clear h hk v hw y c;rcases hn with⟨rfl,rfl⟩|⟨rfl,rfl⟩|⟨rfl,rfl⟩
 all_goals
  go_enter func20,ntmps20;go_wp2_with fail;refine l.j.m ?_;rintro e w2 ⟨rfl,A⟩;clear l k;have B:=Y (m.j _ A.j);go_wp2_with fail;refine B.j.m ?_;rintro e w3 ⟨rfl,C⟩;clear B A m;obtain⟨j,r,f12,F⟩:=o.j _ C.j;have s:=Y F;clear F o;rcases P with⟨h1,g⟩|h1
  ·have t:Hid (Zk 59 #[M a] w3 λe w'=>Zr e (.bool false)/\w'=w3):=Yg j false (Or.inl ⟨h1,rfl⟩);have N:=q.j g;obtain⟨W,u⟩:=Ze (w3.setCell (E a 12) (J 0));rw[<-u,N] at s;clear N g h1 j q;generalize KE.T[i].rg 10=r9 at r;clear b;go_wp2_with fail;refine t.j.e1 ?_;go_upto_region 9 with fail
   rw[<-u];clear u r f12;go_wp2_with fail
   all_goals
    go_ret2;exact⟨rfl,s.j.fin⟩
  have t:Hid (Zk 59 #[M a] w3 λe w'=>Zr e (.bool true)/\w'=w3):=Yg j true (Or.inr ⟨h1,rfl⟩);clear h1 j r f12 s q b;go_wp2_with fail;refine t.j.e1 ?_;go_wp2_with fail
  all_goals
   go_ret2;exact⟨rfl,C.j.fin⟩
section
open Go.Vx (lz iP mT zY)
theorem Qc(k)(a:0<=k)(h1:k<=7)(w):
  Zk 332 #[O k] w λe w'=>Zr e (J (lz k.toNat))/\w'=w:=by
 have hk:k=0\/k=1\/k=2\/k=3\/k=4\/k=5\/k=6\/k=7:=Z;rcases hk with rfl|rfl|rfl|rfl|rfl|rfl|rfl|rfl
 all_goals
  go_enter func332,ntmps332;go_wp2;go_ret;exact⟨kJ I,rfl⟩
theorem VI(k x)(c:0<=k)(h1:k<=7)(a:0<=x)(b:x<4294967296)(w):
  Zk 333 #[O k,J x] w λe w'=>Zr e (J (iP k.toNat x))/\w'=w:=by
 have hk:k=0\/k=1\/k=2\/k=3\/k=4\/k=5\/k=6\/k=7:=Z;rcases hk with rfl|rfl|rfl|rfl|rfl|rfl|rfl|rfl
 all_goals
  go_enter func333,ntmps333;go_wp2;go_ret
 ·exact⟨kJ rfl,rfl⟩
 ·exact⟨kJ (afk x a b),rfl⟩
 ·exact⟨kJ (afj x a b),rfl⟩
 ·exact⟨kJ (afi x a b),rfl⟩
 ·exact⟨kJ (afh x a b),rfl⟩
 ·exact⟨kJ rfl,rfl⟩
 ·exact⟨kJ (afg x a b),rfl⟩
 exact⟨kJ (aff x a b),rfl⟩
theorem amZ(k x)(c:0<=k)(h1:k<=7)(a:0<=x)(b:x<4294967296)(w):
  Zk 334 #[O k,J x] w λe w'=>Zr e (O (mT k.toNat x))/\w'=w:=by
 have hk:k=0\/k=1\/k=2\/k=3\/k=4\/k=5\/k=6\/k=7:=Z;rcases hk with rfl|rfl|rfl|rfl|rfl|rfl|rfl|rfl
 all_goals
  go_enter func334,ntmps334;go_wp2;go_ret
 ·exact⟨kJ rfl,rfl⟩
 ·exact⟨kJ (an5 x a b),rfl⟩
 ·exact⟨kJ (an4 x a b),rfl⟩
 ·exact⟨kJ (an3 x a b),rfl⟩
 ·exact⟨kJ (an2 x a b),rfl⟩
 ·exact⟨kJ rfl,rfl⟩
 ·exact⟨kJ (an1 x a b),rfl⟩
 exact⟨kJ (an0 x a b),rfl⟩
theorem ajS(k:Int)(a:0<=k)(h1:k<=7):bits .or .u32 (lz k.toNat) (iP k.toNat 4294967295)=zY k.toNat:=by
 have hk:k=0\/k=1\/k=2\/k=3\/k=4\/k=5\/k=6\/k=7:=Z;rcases hk with rfl|rfl|rfl|rfl|rfl|rfl|rfl|rfl<;>decide
theorem ajT(k)(a:0<=k)(h1:k<=7)(w):
  Zk 296 #[O k] w λe w'=>Zr e (J (zY k.toNat))/\w'=w:=by
 go_enter func296,ntmps296;go_wp2_with (first|(go_at_call 332;refine(Qc _ a h1 _).m ?_;rintro e w' ⟨rfl,rfl⟩)|(go_at_call 333;refine(VI _ _ a h1 Z Z _).m ?_;rintro e w' ⟨rfl,rfl⟩));go_ret;exact⟨kJ (ajS k a h1),rfl⟩
end
section
open Go.Vx (lz iP mT zY kindOf oR ins fj Dh oe dec fits)
def dX(w:Z0):Prop:=3<w.heap.size/\∀op:Int,0<=op->op<=48->
 w.cell? (E 3 (op.toNat*2))=some (O (kindOf op))/\w.cell? (E 3 (op.toNat*2+1))=some (J (oR op))
theorem dX.below(h:dX w)(a:3<B)(hb:Below B w w'):dX w':=by
 refine⟨Nat.lt_of_lt_of_le h.1 hb.size,λop b h1=>?_⟩;rw[hb.cell (p:=E 3 (op.toNat*2)) a,hb.cell (p:=E 3 (op.toNat*2+1)) a];exact h.2 op b h1
theorem alq(op x)(g:0<=op)(h1:op<=48)(a:0<=x)(b:x<4294967296)(w)(d:dX w):
  Zk 297 #[O op,J x] w λe w'=>Zr e (fj (ins op x))/\Below w.heap.size w w':=by
 have h:=d.1;have i:=(d.2 op g h1).1;have hk:(0:Int)<=(kindOf op:Int):=Z;have c:=FP op;have f:(kindOf op:Int)<=7:=Z;go_enter func297,ntmps297;go_wp2_with (first|(go_at_call 332;refine(Qc _ hk f _).m ?_;rintro e w' ⟨rfl,rfl⟩)|(go_at_call 334;refine(amZ _ _ hk f a b _).m ?_;rintro e w' ⟨rfl,rfl⟩));refine bodyPost_ret (v:=fj (ins op x)) ?_ rfl ⟨rfl,?_⟩
 ·simp[results,results297,go_sem,fj,ins,(Y (agI (kindOf op) c x a b)).j,(Y (ag3 (kindOf op) c x a b)).j,(Y (ag2 (kindOf op) c x a b)).j]
 exact(Below.refl _ _).alloc (Nat.le_refl _) _
theorem ab3(x)(j:0<=x)(k:x<4294967296)(w)(c:dX w):
  Zk 229 #[J x] w λe w'=>Zr e (fj (dec x))/\Below w.heap.size w w':=by
 have l:=c.1;go_enter func229,ntmps229;go_wp2;go_loopw [3] (λt wr=>∃op:Int,1<=op/\op<=49/\t=O op/\Hid (oe (49 - op).toNat op x=dec x)/\Below (w.heap.size+1) (w.alloc (.cells #[O 0,O 0,O 0,O 0,O 0] 287)) wr) (λt _=>(49 - RowKit.intOf t).toNat)
 case atStart=>exact⟨1,Z,Z,rfl,rfl,Below.refl _ _⟩
 case round=>
  obtain⟨op,h1,z,rfl,d,hb⟩:=hrel;have a:=Y (c.below l (((Below.refl _ _).alloc (Nat.le_refl _) _).trans (hb.mono Z)));have hs:w.heap.size+1<=wr.heap.size:=by have:=hb.size;simpa using this
  have⟨q,A⟩:(∀o,wr.cell? (E w.heap.size o)=(w.alloc (.cells #[O 0,O 0,O 0,O 0,O 0] 287)).cell? (E w.heap.size o))/\(∀o,wr.frozen? (E w.heap.size o)=(w.alloc (.cells #[O 0,O 0,O 0,O 0,O 0] 287)).frozen? (E w.heap.size o)):=
   ⟨λo=>hb.cell (p:=E w.heap.size o) (Nat.lt_succ_self _),λo=>hb.frozen (p:=E w.heap.size o) (Nat.lt_succ_self _)⟩
  by_cases f:op<=48
  ·have B:=(a.j.2 op Z f).1;have C:=(a.j.2 op Z f).2;have hk:(0:Int)<=(kindOf op:Int):=Z;have D:=FP op;have r:(kindOf op:Int)<=7:=Z;go_wp2;go_quiet ((go_at_call 296;exact Calls.quiet_of_same (ajT _ hk r _)));rw[(Y (anp op x j k)).j];have g:Below (w.heap.size+1) (w.alloc (.cells #[O 0,O 0,O 0,O 0,O 0] 287)) ((wr.alloc (.cells #[O (kindOf op),J (oR op)] 414)).drewN nq):=
    below_drewN (hb.alloc hs _) nq
   cases m:fits op x with
   |false=>
    have b:Hid (oe (49 - (op+1)).toNat (op+1) x=dec x):=by
     have e:(49 - op).toNat=(49 - (op+1)).toNat+1:=Z;have:=d.j;rwa[e,aaU _ _ _ m] at this
    go_wp2;go_roundw
    case rel=>exact⟨op+1,Z,Z,by go_num,b,g⟩
    case measure=>simp[RowKit.intOf];omega
   |true=>
    have b:Hid (ins op x=dec x):=by
     have e:(49 - op).toNat=(49 - (op+1)).toNat+1:=Z;have:=d.j;rwa[e,Ti _ _ _ m] at this
    go_wp2_with fail;refine(alq op x Z f j k _ (Y (c.below l (((Below.refl _ _).alloc (Nat.le_refl _) _).trans (g.mono Z)))).j).m ?_;rintro e w2 ⟨rfl,n⟩;rw[b.j];unfold fj;have F:wr.heap.size+1<=w2.heap.size:=by have:=n.size;simpa using this
    have h:=g.trans (n.mono (by simp;omega));have⟨s,u⟩:(∀o,w2.cell? (E w.heap.size o)=(w.alloc (.cells #[O 0,O 0,O 0,O 0,O 0] 287)).cell? (E w.heap.size o))/\(∀o,w2.frozen? (E w.heap.size o)=(w.alloc (.cells #[O 0,O 0,O 0,O 0,O 0] 287)).frozen? (E w.heap.size o)):=
     ⟨λo=>h.cell (p:=E w.heap.size o) (Nat.lt_succ_self _),λo=>h.frozen (p:=E w.heap.size o) (Nat.lt_succ_self _)⟩
    go_wp2;refine bodyPost_ret (v:=fj (dec x)) ?_ rfl ⟨rfl,?_⟩
    ·simp[results,results229,go_sem,fj,s]
    have i:=((Below.refl _ _).alloc (Nat.le_refl _) _).trans (h.mono Z);exact(((((i.setCell (Nat.le_refl _) _).setCell (Nat.le_refl _) _).setCell (Nat.le_refl _) _).setCell (Nat.le_refl _) _).setCell (Nat.le_refl _) _)
  have y:op=49:=Z;subst y;have b:Hid (Dh=dec x):=d.j;go_wp2;refine bodyPost_ret (v:=fj (dec x)) ?_ rfl ⟨rfl,?_⟩
  ·simp[results,results229,go_sem,fj,<-b.j,Dh,q]
  have i:=((Below.refl _ _).alloc (Nat.le_refl _) _).trans (hb.mono Z);exact(((((i.setCell (Nat.le_refl _) _).setCell (Nat.le_refl _) _).setCell (Nat.le_refl _) _).setCell (Nat.le_refl _) _).setCell (Nat.le_refl _) _)
end
theorem ahp{f:Nat->UInt8}{n:Nat}{len u:Nat}(e:len=1\/len=2\/len=4)(h:jL f n root va len u=.ok a):a % len=0/\a+len<=4096*n:=by
 unfold jL Bn at h;split at h
 ·cases h
 rename_i h1;split at h
 ·cases h
 rename_i g;injection h with h
 subst h;have b:(tX f n root va u).2= -1:=by simpa using g
 have l:va % len=0:=by simpa using h1
 unfold tX at b|-
 split at b
 ·omega
 rename_i i;rw[if_neg i];split at b
 ·omega
 rename_i j;rw[if_neg j];unfold JU at b|-
 split at b
 ·simp only at b;omega
 rename_i k;rw[if_neg k];split at b
 ·simp only at b;omega
 rename_i c;rw[if_neg c];simp only;have d:=QV f n root va;generalize (fL f n root va).2.1=S at c d|-;generalize (fL f n root va).1/1024=q at c|-;rcases d with rfl|rfl<;>rcases e with rfl|rfl|rfl<;>omega
theorem cP.more{n:Nat}{f:Nat->UInt8}(h:cP U w bm n f)(d:Zq w wv):cP (λk=>U k\/(w.heap.size<=k/\k<wv.heap.size)) wv bm n f:=by
 have⟨bp,q,h1⟩:=h;have a:=h1.only d (λ_ h _=>h.elim);refine⟨bp,q,a.pos,a.top,a.m,a.p,a.nil,a.pg,a.inj,?_,?_,?_,?_⟩
 ·rintro(hu|hu)
  ·exact a.um hu
  have:=aB h1.m;omega
 ·rintro(hu|hu)
  ·exact a.up hu
  have:=aB h1.p;omega
 ·rintro i b hi c (hu|hu)
  ·exact a.ug i b hi c hu
  have:=aB (h1.pg i hi b c);omega
 rintro k (hu|hu)
 ·exact a.low k hu
 exact hu.2
theorem dX.only(h:dX w)(a:H S w w')(b:¬S 3):dX w':=by
 refine⟨Nat.lt_of_lt_of_le h.1 a.size,λop c h1=>?_⟩;rw[a.cell (p:=E 3 (op.toNat*2)) h.1 b,a.cell (p:=E 3 (op.toNat*2+1)) h.1 b];exact h.2 op c h1
end Go.Proofs.YtdjlkahbpdoemaaGreatDoor

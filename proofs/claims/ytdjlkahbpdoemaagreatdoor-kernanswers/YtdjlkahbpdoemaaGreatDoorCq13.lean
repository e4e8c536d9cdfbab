import Derived.Test.YtdjlkahbpdoemaaGreatDoorCq11
import Derived.Test.YtdjlkahbpdoemaaGreatDoorCq12
import Derived.Deep.MidRow
set_option maxRecDepth 100000
set_option maxHeartbeats 8000000
set_option linter.unusedVariables false
set_option linter.unusedSimpArgs false
open Go Go.Vx Go.Proofs.Tryz Go.ChangeShapes Go.WideShapes Go.ChangeAt Go.RowKit
namespace Go.Proofs.YtdjlkahbpdoemaaGreatDoor
variable {α:Type}{cs cur:Array Value}{D:DataW Value}{lf n:Int}{G:Int->Nat}{K:Kn}{es iY:List Et}{l l2:List Int}{JN gs:List Nat}{vq:List Value}{xs:List α}{ts:Lp}{N b ck i mb qb t xb y:Nat}{Q:Nat->List Int}{T0 e:TypeId}{w w2 w3:Z0}{S U:Z1}{v v' vt:Z3}
theorem cU.perm(h:cU es ck)(hp:es.Perm iY):cU iY ck:=
 ⟨(hp.map _).nodup_iff.1 h.nd,λe he=>h.ok e (hp.mem_iff.2 he),λe he f hf=>h.cd e (hp.mem_iff.2 he) f (hp.mem_iff.2 hf),λe he f hf=>h.qf e (hp.mem_iff.2 he) f (hp.mem_iff.2 hf)⟩
theorem NV:(du es n).isSome=true↔n∈es.map (·.num):=by
 constructor
 ·intro h;have⟨i,hi⟩:=Option.isSome_iff_exists.1 h;have⟨a,hn⟩:=uK hi;exact List.mem_map.2 ⟨_,List.getElem_mem a,hn⟩
 intro h;have⟨e,he,hn⟩:=List.mem_map.1 h;cases hf:du es n with
 |some i=>rfl
 |none=>
  have:=jQ (show dL _ es 0=none from hf) e he;simp[hn] at this
theorem Tg(hp:es.Perm iY)(n):(du es n).isSome=(du iY n).isSome:=by
 rw[Bool.eq_iff_iff,NV,NV];exact(hp.map _).mem_iff
theorem uU.perm(h:uU U w xb ts t lf es ck)(hp:es.Perm iY):uU U w xb ts t lf iY ck:=by
 have⟨G,hs,a,mb,D,vt,vq,Q,b,h⟩:=h;refine⟨G,hs.perm hp,a,mb,D,vt,vq,Q,λj c=>?_,?_⟩
 ·have⟨xs,⟨h1,d⟩,g⟩:=b j c;exact⟨xs,⟨h1.trans (hp.filter _),d⟩,g⟩
 refine⟨h.x,h.lq,h.t',hp.length_eq▸h.m,λk hk=>(h.hs k hk).trans (Tg hp k),λk i z hk=>?_,λe he=>h.rn e (hp.mem_iff.2 he),λe he f hf=>h.gi e (hp.mem_iff.2 he) f (hp.mem_iff.2 hf),h.qs,h.qd,h.ux,h.ut,h.um,λe he=>h.ur e (hp.mem_iff.2 he),h.uq,h.low,hp.length_eq▸h.nl,λe he=>h.ix e (hp.mem_iff.2 he)⟩;have h1:(du es k).isSome=true:=by rw[Tg hp k,hk];rfl
 have⟨i2,l⟩:=Option.isSome_iff_exists.1 h1;exact h.ha k i2 z l
theorem apJ(hp:es.Perm iY)(n d p):(de es n d p).Perm (de iY n d p):=by
 have he:jn es n d p=jn iY n d p:=by
  unfold jn;rw[Tg hp n]
 unfold de;rw[he];split
 ·exact hp.append_right _
 exact hp
theorem apI(es m n):(de (de es m 0 0) n 0 0).Perm (de (de es n 0 0) m 0 0):=by
 by_cases c:m=n
 ·subst c;exact List.Perm.refl _
 have key:∀(a b:Int),a≠b->∀es:List Et,jn (de es a 0 0) b 0 0=jn es b 0 0:=λa b i es=>by
  unfold jn;have:(du (de es a 0 0) b).isSome=(du es b).isSome:=by
   rw[Bool.eq_iff_iff,NV,NV];unfold de;split
   ·rw[List.map_append,List.mem_append];constructor
    ·rintro(h|h)
     ·exact h
     simp at h;exact absurd h.symm i
    exact Or.inl
   exact Iff.rfl
  rw[this]
 have e1:=key m n c es;have g:=key n m (λh=>c h.symm) es;by_cases hn:jn es n 0 0=0
 ·by_cases hm:jn es m 0 0=0
  ·have d:de es m 0 0=es++[⟨m,0,0,0,0⟩]:=if_pos hm;have a2:de es n 0 0=es++[⟨n,0,0,0,0⟩]:=if_pos hn;have e:de (de es m 0 0) n 0 0=de es m 0 0++[⟨n,0,0,0,0⟩]:=if_pos (e1.trans hn);have f:de (de es n 0 0) m 0 0=de es n 0 0++[⟨m,0,0,0,0⟩]:=if_pos (g.trans hm);rw[e,f,d,a2,List.append_assoc,List.append_assoc];exact List.Perm.append_left _ (List.Perm.swap _ _ _)
  have d:de es m 0 0=es:=if_neg hm;have f:de (de es n 0 0) m 0 0=de es n 0 0:=if_neg (λh=>hm (g.symm.trans h));rw[f,d]
 have a2:de es n 0 0=es:=if_neg hn;have e:de (de es m 0 0) n 0 0=de es m 0 0:=if_neg (λh=>hn (e1.symm.trans h));rw[e,a2]
theorem Wm:∀(l:List Int) {es iY:List Et},es.Perm iY->(qj es l).Perm (qj iY l)
 |[],_,_,hp=>hp
 |n::r,_,_,hp=>Wm r (apJ hp n 0 0)
theorem agv(h:l.Perm l2):∀es:List Et,(qj es l).Perm (qj es l2):=by
 induction h with
 |nil=>intro es;exact List.Perm.refl _
 |cons x _ a=>intro es;exact a _
 |swap x y l=>intro es;exact Wm l (apI es y x)
 |trans _ _ b c=>intro es;exact(b es).trans (c es)
section
variable {c:Nat}
theorem ai1{base g n c:Nat}{xs:Lp}(h:ax dG w base e (Zs g n c) xs){k:Nat}(hk:k<xs.length):w.cell? (E g (k*2))=some (O xs[k].1)/\w.cell? (E g (k*2+1))=some (O xs[k].2):=⟨(h.cell k 0 hk I).trans rfl,(h.cell k 1 hk I).trans rfl⟩
end
theorem ai2{L:Lay α}{base g n c:Nat}(h:ax L w base e (Zs g n c) xs){k:Nat}(hk:k<xs.length):w.rangeAt g (k*L.sz) (L.cf xs[k]):=λj u a=>by
 have b:j<L.sz:=by have:=(List.getElem?_eq_some_iff.1 a).1;rw[L.len] at this;exact this
 rw[h.cell k j hk b];exact a
theorem fX{t:TypeId}(h:w.heap[b]?=some (.cells cs t (0,0)))(j):w.frozen? (E b j)=false:=by simp[World.frozen?,h]
theorem vB{g:Nat}{t:TypeId}:∀(c pre a:List Value) (w:Z0),a.length=c.length->w.heap[g]?=some (.cells (pre++a).toArray t (0,0))->(w.setCells g pre.length c).heap[g]?=some (.cells (pre++c).toArray t (0,0))/\H (λk=>k=g) w (w.setCells g pre.length c)
 |[],pre,a,w,b,h=>by
  have:a=[]:=List.length_eq_zero_iff.1 b;subst this
  exact⟨h,H.refl _ w⟩
 |v::r,pre,[],w,b,h=>by cases b
 |v::r,pre,s::a,w,b,h=>by
  have h1:=heap_setCell_same w g pre.length _ _ v h
  have e1:(pre++s::a).toArray.setIfInBounds pre.length v=((pre++[v])++a).toArray:=by
   simp
  rw[e1] at h1;obtain⟨d,e⟩:=vB r (pre++[v]) a _ (by simpa using b) h1;have f:(pre++[v]).length=pre.length+1:=by simp
  rw[f] at d e;refine⟨?_,(H.setCell (S:=λk=>k=g) (H.refl _ w) (p:=E g pre.length) (Or.inl rfl) v).trans e⟩;rw[List.append_assoc] at d;exact d
theorem L0(w b o)(cs:List Value)(ht:w.there b o cs.length)(h1:∀v∈cs,v.oneCell'=true):(storeCells (E b o) cs).run prog w=.ok () (w.setCells b o cs):=by
 have:=run_storeCells_cells (P:=prog) b o cs 0 w (λj a=>by simpa using(ht j a).1) (λj a=>by simpa using(ht j a).2) h1;simpa only[Nat.add_zero] using this
theorem aix{x:Int×Int×Int}(a:¬(x.1=5/\iO x.2.2=false))(b:iZ K.n K.os K.rs (x.1,x.2.1)=0):dH K x=(if x.1=1 then {K with os:=lR K.n K.os K.rs (x.1,x.2.1),rs:=oV K.n K.os K.rs (x.1,x.2.1)} else xM {K with os:=lR K.n K.os K.rs (x.1,x.2.1),rs:=oV K.n K.os K.rs (x.1,x.2.1)} (x.1,x.2.1) x.2.2,0):=by unfold dH;rw[if_neg a,if_pos b]
theorem aaO(L:Lay α)(y:α)(j:Nat)(v:Z3):∀(xs:List α) (k:Nat) (hk:k<xs.length),j<L.sz->(L.cf xs[k]).set j v=L.cf y->(fl L xs).set (k*L.sz+j) v=fl L (xs.set k y)
 |[],k,h,_,_=>by cases h
 |x::r,0,_,a,he=>by
  rw[tD,List.set_cons_zero,tD,Nat.zero_mul,Nat.zero_add,List.set_append_left _ _ (by rw[L.len];exact a)];rw[List.getElem_cons_zero] at he
  rw[he]
 |x::r,k+1,h,a,he=>by
  rw[tD,List.set_cons_succ,tD];have e:(k+1)*L.sz+j=(L.cf x).length+(k*L.sz+j):=by rw[L.len,Nat.add_mul];omega
  rw[e,List.set_append_right _ _ Z,Nat.add_sub_cancel_left,aaO L y j v r k (by simpa using h) a (by simpa using he)]
def yz(K:Kn)(i:Nat)(n:Int):Kn:=if (K.T.getD i .df).st=1 then {K with T:=K.T.set i {K.T.getD i .df with st:=1}} else {K with T:=K.T.set i {K.T.getD i .df with st:=1},ss:=(if jw K.ss n=0 then nJ K.ss K.ck n else K.ss),ck:=(if jw K.ss n=0 then K.ck+1 else K.ck)}
def sX(k:Int):Bool:=decide (0<=k/\k<=7)
theorem Yh(k w):Zk 93 #[O k] w λe w'=>Zr e (.bool (sX k))/\w'=w:=by
 by_cases h1:0<=k
 ·by_cases b:k<8
  ·have a:Hid (sX k=true):=decide_eq_true ⟨h1,Z⟩;rw[a.j];go_enter func93,ntmps93;go_wp2_with fail;all_goals
    go_ret;exact⟨by first|rfl|simp_all,rfl⟩
  have a:Hid (sX k=false):=decide_eq_false (λh=>b Z);rw[a.j];go_enter func93,ntmps93;go_wp2_with fail;all_goals
   go_ret;exact⟨by first|rfl|simp_all,rfl⟩
 have a:Hid (sX k=false):=decide_eq_false (λh=>h1 h.1);rw[a.j];go_enter func93,ntmps93;go_wp2_with fail;all_goals
  go_ret;exact⟨by first|rfl|simp_all,rfl⟩
theorem alm(k w):Zk 94 #[O k] w λe w'=>Zr e (.bool (sX k))/\w'=w:=by
 by_cases h1:0<=k
 ·by_cases b:k<8
  ·have a:Hid (sX k=true):=decide_eq_true ⟨h1,Z⟩;rw[a.j];go_enter func94,ntmps94;go_wp2_with fail;all_goals
    go_ret;exact⟨by first|rfl|simp_all,rfl⟩
  have a:Hid (sX k=false):=decide_eq_false (λh=>b Z);rw[a.j];go_enter func94,ntmps94;go_wp2_with fail;all_goals
   go_ret;exact⟨by first|rfl|simp_all,rfl⟩
 have a:Hid (sX k=false):=decide_eq_false (λh=>h1 h.1);rw[a.j];go_enter func94,ntmps94;go_wp2_with fail;all_goals
  go_ret;exact⟨by first|rfl|simp_all,rfl⟩
def mU(G:Int->Nat)(es:List Et)(n:Int)(b:Bool):Value:=match du es n with
 |none=>.tuple #[.pointer none,O 6]
 |some i=>if decide ((es.getD i .df).came≠0)=b then .tuple #[.pointer (some ⟨G n,0,none⟩),O 0] else .tuple #[.pointer none,O 16]
theorem acQ(h:bZ U w xb mb D G vt vq ts t lf es Q)(n)(hn:af n)(b):Zk 181 #[M xb,O n,.bool b] w λe w'=>Zr e (mU G es n b)/\w'=w:=by
 have c3:=h.c3;have hk:=h.look n hn;cases hi:du es n with
 |none=>
  have hv:ud G es n=.pointer none:=by unfold ud;rw[hi]
  have a:Hid (mU G es n b=.tuple #[.pointer none,O 6]):=by unfold mU;rw[hi];exact rfl
  rw[a.j];rw[hv] at hk;go_enter func181,ntmps181;go_wp2_with fail;all_goals
   go_ret2;exact⟨rfl,rfl⟩
 |some i=>
  have⟨c,he,r5,hv⟩:=h.r5 hi;rw[hv] at hk;have d:=r5.c3;by_cases hb:decide (es[i].came≠0)=b
  ·have a:Hid (mU G es n b=.tuple #[.pointer (some ⟨G n,0,none⟩),O 0]):=by unfold mU;rw[hi];dsimp only;rw[gJ c,if_pos hb];exact rfl
   rw[a.j];rw[hb] at d;have j:(b !=b)=false:=by simp
   generalize G n=g at d hk|-;clear h hi hv hn r5 hb he c;go_enter func181,ntmps181;go_wp2_with fail
   all_goals
    go_ret2;exact⟨rfl,rfl⟩
  have a:Hid (mU G es n b=.tuple #[.pointer none,O 16]):=by unfold mU;rw[hi];dsimp only;rw[gJ c,if_neg hb];exact rfl
  rw[a.j];have f:decide (es[i].came≠0)= !b:=by
   cases h1:decide (es[i].came≠0)<;>cases b<;>simp_all
  rw[f] at d;have j:((!b) !=b)=true:=by cases b<;>rfl
  generalize G n=g at d hk|-;clear h hi hv hn r5 hb he c f
  cases b with
  |true=>
   go_enter func181,ntmps181;go_wp2_with fail;all_goals
    go_ret2;exact⟨rfl,rfl⟩
  |false=>
   go_enter func181,ntmps181;go_wp2_with fail;all_goals
    go_ret2;exact⟨rfl,rfl⟩
theorem acJ(h:bZ U w xb mb D G vt vq ts t lf es Q)(n)(hn:af n):Zk 66 #[M xb,O n] w λe w'=>Zr e (.tuple #[O (lF es n).1,O (lF es n).2.1,O (lF es n).2.2.1,O (lF es n).2.2.2])/\Zq w w':=by
 have c3:=h.c3;have hk:=h.look n hn;cases hi:du es n with
 |none=>
  have hv:ud G es n=.pointer none:=by unfold ud;rw[hi]
  have e1:lF es n=(0,0,0,6):=by unfold lF;rw[hi]
  rw[e1];rw[hv] at hk;go_enter func66,ntmps66;go_wp2_with fail;refine bodyPost_ret (v:=.tuple #[O 0,O 0,O 0,O 6]) ?_ rfl ⟨rfl,H.refl _ _⟩;simp[results,results66,go_sem]
 |some i=>
  have⟨d,he,r5,hv⟩:=h.r5 hi;rw[hv] at hk;have e1:lF es n=(es[i].cy,es[i].prio,es[i].left,0):=by unfold lF;rw[hi];dsimp only;rw[gJ d]
  rw[e1];have a:=r5.c1;have b:=r5.c2;have c:=r5.c4;generalize es[i]=x at a b c|-;obtain⟨l,f,j,k,m⟩:=x;dsimp only at a b c|-;generalize G n=g at a b c hk|-;clear h hi hv hn r5 he d e1;go_enter func66,ntmps66;go_wp2_with fail;go_quiet (fail);go_wp2_with fail;refine bodyPost_ret (v:=.tuple #[O f,O j,O k,O 0]) ?_ rfl ⟨rfl,(H.refl _ _).drewN _⟩;simp[results,results66,go_sem]
theorem Wr(w)(g d p:Nat)(a:d<8)(hp:p<8)(b:w.cell? (E g 1)=some (O (d:Int)))(c:w.cell? (E g 2)=some (O (p:Int))):Zk 138 #[M xb,M g] w λe w'=>Zr e (.pointer (some ⟨xb,4+(d*8+p),none⟩))/\Zq w w':=by
 have i1:0<=(d:Int)/\(d:Int)<8:=Z;have i2:0<=(p:Int)/\(p:Int)<8:=Z;go_enter func138,ntmps138;go_wp2_with fail;go_quiet (fail);go_wp2_with fail;all_goals
  go_ret;refine⟨?_,(H.refl _ _).drewN _⟩;first|rfl|(simp[Nat.add_assoc])
theorem prK:Kind prog cn 202 155:=sY (z:=.pointer none) (b:=8) underlying202 Zx rfl I
section
variable {c:Nat}
structure AN(w:Z0)(qb c:Nat)(cur:Array Value)(T0:TypeId)(v:Z3)(gs:List Nat):Prop where
 b:w.heap[qb]?=some (.cells cur T0 (0,0))
 c':cur[c]?=some v
 o:ax cn w 0 155 v gs
 ne:∀k,v.ownBlock=some k->k≠qb
 n:gs.length<10000000
theorem AN.c0(h:AN w qb c cur T0 v gs):w.cell? (E qb c)=some v:=(cell_of_row _ _ c _ _ (0,0) h.b).trans h.c'
def Kf(w:Z0)(qb c:Nat)(cur:Array Value)(T0:TypeId)(v:Z3)(gs:List Nat)(w':Z0):Prop:=∃v',ax cn w' 0 155 v' gs/\w'.heap[qb]?=some (.cells (cur.setIfInBounds c v') T0 (0,0))/\H (λk=>k=qb\/v.ownBlock=some k) w w'/\∀k,v'.ownBlock=some k->v.ownBlock=some k\/w.heap.size<=k
theorem AN.put(h:AN w qb c cur T0 v gs)(f:ax cn w3 0 155 v' JN)(a:H (λk=>v.ownBlock=some k) w w3)(b:∀k,v'.ownBlock=some k->v.ownBlock=some k\/w.heap.size<=k):
  (∃x,w3.cell? (E qb c)=some x)/\w3.frozen? (E qb c)=false/\Kf w qb c cur T0 v JN (w3.setCell (E qb c) v'):=by
 have hb:=H.keep a h.b (λe=>h.ne qb e rfl);have d:H (λk=>k=qb) w3 (w3.setCell (E qb c) v'):=H.setCell (S:=λk=>k=qb) (H.refl _ _) (Or.inl rfl) _;refine⟨⟨_,(cell_of_row _ _ c _ _ (0,0) hb).trans h.c'⟩,by simp[World.frozen?,hb],v',?_,?_,?_,b⟩
 ·refine ax.kept f d (λk hk e=>?_);rcases b k hk with h1|h1
  ·exact h.ne k h1 e
  have:=aB h.b;omega
 ·exact heap_setCell_same _ _ c _ _ v' hb
 exact(a.mono (λk _ h=>Or.inr h)).trans (d.mono (λk _ h=>Or.inl h))
end
section
variable {c g:Nat}
theorem agL(h:AN w qb c cur T0 v gs)(g):Zk 140 #[.pointer (some (E qb c)),M g] w λe w'=>(∃x,Zr e x)/\Kf w qb c cur T0 v (gs++[g]) w':=by
 have b:=Y h;have⟨q,k,hv,_⟩:=h.o.form;have⟨N,hN⟩:=Ze (gs.length);rw[<-hN] at hv;subst hv;have c0:=h.c0;have l:Hid (gs.length+1<=10000000):=by show _<=_;have:=h.n;omega
 clear h hN;go_enter func140,ntmps140;go_wp2_with (at_builtin;refine wH prK _ rfl _ _ rfl 0 (.slice q N k) _ rfl b.j.o g _ _ rfl rfl rfl l.j (Nat.zero_le _) ?_;intro v' n a d f;obtain⟨o,p,i,_⟩:=a.form;generalize (gs++[g]).length=mz at i;subst i;obtain⟨⟨r,s⟩,t,j⟩:=b.j.put a d (X0 f);have m:=Y j;clear a d f j);all_goals
  go_end0;exact⟨⟨_,rfl⟩,m.j⟩
end
section
variable {c:Nat}
theorem agN(h:AN w qb c cur T0 v []):Zk 95 #[.pointer (some (E qb c))] w λe w'=>Zr e (.tuple #[.pointer none,.bool false])/\w'=w:=by
 have⟨q,b,hv,_⟩:=h.o.form;have a:([]:List Nat).length=0:=rfl;rw[a] at hv;subst hv;have c0:=h.c0;go_enter func95,ntmps95;go_wp2_with fail;all_goals
  go_ret2;exact⟨rfl,rfl⟩
end
section
variable {c g:Nat}
theorem agO(h:AN w qb c cur T0 v (g::gs)):Zk 95 #[.pointer (some (E qb c))] w λe w'=>Zr e (.tuple #[M g,.bool true])/\w'=w:=by
 have⟨q,a,hv,_,_,hg⟩:=h.o.form;obtain⟨b,rfl,_⟩:=hg (by simp);subst hv;have d:w.cell? (E b 0)=some (M g):=h.o.cell 0 0 (by simp) I;have⟨N,hN⟩:=Ze (gs.length);have c0:=h.c0;have hn:=h.n;rw[List.length_cons,<-hN] at c0 hn;have h1:(0:Int)<(N:Int)+1:=Z;have f:(((N+1:Nat):Int)==0)=false:=ZF;have i:¬((N:Int)+1=0):=Z;go_enter func95,ntmps95;go_wp2_with fail;all_goals
  go_ret2;exact⟨rfl,rfl⟩
end
theorem Wj:(prog.info? 158).map (·.size)=some 5:=Zx
theorem anC{x:Nat}(a:Lv w x):(binOp .eql 155 (M x) (M x)).run prog w=.ok (.bool true) w:=by
 have h:=Wj;cases hi:prog.info? 158 with
 |none=>rw[hi] at h;cases h
 |some j=>exact run_eql_ptr_same w _ underlying155 hi
theorem anD{x:Nat}(a:Lv w x)(hy:Lv w y)(hn:x≠y):(binOp .eql 155 (M x) (M y)).run prog w=.ok (.bool false) w:=by
 have h:=Wj;have⟨c1,t1,a⟩:=a;have⟨c2,t2,hy⟩:=hy;cases hi:prog.info? 158 with
 |none=>rw[hi] at h;cases h
 |some j=>
  rw[hi] at h;refine run_eql_ptr_other w (te:=158) underlying155 hi ?_ (λe=>hn (by injection e)) a hy;have:j.size=5:=by injection h
  omega
section
variable {g:Nat}
theorem agM(h:ax cn w 0 155 v gs)(hn:gs.length<10000000)(q:∀x∈gs,Lv w x)(g)(r:Lv w g):Zk 225 #[v,M g] w λe w'=>Zr e (O (FT (zc gs g)))/\w'=w:=by
 obtain⟨p,t,rfl,_,_,hg⟩:=h.form;have hb:∀(k:Nat) (hk:k<gs.length),∃b,p=some (E b 0)/\w.cell? (E b k)=some (.pointer (some ⟨gs[k],0,none⟩)):=λk hk=>by
  obtain⟨b,rfl,_⟩:=hg Z;refine⟨b,rfl,?_⟩;have:=h.cell k 0 hk I;have e:cn.sz=1:=rfl;rwa[e,Nat.mul_one,Nat.add_zero] at this
 have s:=Y hb;have i:=Y r;have⟨N,hN⟩:=Ze (gs.length);have j:=Y hN;rw[<-hN] at hn|-;clear h hb hg hN;go_enter func225,ntmps225
 go_wp2;go_loopw [5,8] (λ_ d wr=>∃k:Nat,d=O (k:Int)/\k<=N/\Hid (dL (λb:Nat=>decide (b=g)) (gs.drop k) k=zc gs g)/\wr=w) (λ_ d _=>N - (RowKit.intOf d).toNat)
 case atStart=>exact⟨0,rfl,Z,(show dL _ (gs.drop 0) 0=_ from by rw[List.drop_zero];rfl),rfl⟩
 case round=>
  obtain⟨k,rfl,hk,l,rfl⟩:=hrel;by_cases u:k<N
  ·have f:k<gs.length:=by have:=j.j;omega
   have h1:(k:Int)<(N:Int):=Z;have y:0<=(k:Int)/\(k:Int)<(N:Int):=Z;have z:=Zf k Z;obtain⟨b,rfl,n⟩:=s.j k f;have a:=l.j;rw[YA gs k f] at a;by_cases he:gs[k]=g
   ·rw[if_pos (decide_eq_true he)] at a;have c:=Y a;rw[he] at n;have o:=anC i.j;go_wp2_with fail;all_goals
     go_ret;exact⟨by rw[<-c.j];rfl,rfl⟩
   rw[if_neg (by simpa using he)] at a;have c:=Y a;have o:=anD i.j ((Y q).j gs[k] (List.getElem_mem f)) (λe=>he e.symm);generalize gs[k]=m at n he o;go_wp2;go_roundw
   case rel=>exact⟨k+1,by go_num,Z,c,trivial⟩
   case measure=>exact Zm
  obtain rfl:k=N:=Z;have a:=l.j;rw[j.j,YD] at a;have c:=Y a;have h1:¬(k:Int)<(k:Int):=Z;go_wp2_with fail;all_goals
   go_ret;exact⟨by rw[<-c.j];rfl,rfl⟩
theorem WD{cap:Nat}(h:ax cn w 0 155 (Zs g N cap) gs)(k)(hk:k<gs.length):w.cell? (E g k)=some (.pointer (some ⟨gs[k],0,none⟩)):=by
 have:=h.cell k 0 hk I;have e:cn.sz=1:=rfl;rwa[e,Nat.mul_one,Nat.add_zero] at this
end
theorem ahe:∃i,prog.info? 155=some i/\i.size=1:=by
 have h:(prog.info? 155).map (·.size)=some 1:=Zx;cases hi:prog.info? 155 with
 |none=>rw[hi] at h;cases h
 |some i=>rw[hi] at h;exact⟨i,rfl,by injection h⟩
section
variable {g:Nat}
theorem agP{cap:Nat}(h:ax cn w 0 155 (Zs g gs.length cap) gs)(hi:i<gs.length)(hn:gs.length<10000000):
  Zk 226 #[Zs g gs.length cap,O (i:Int),O ((i:Int)+1)] w λe w'=>Zr e (Zs g (gs.length - 1) cap)/\ax cn w' 0 155 (Zs g (gs.length - 1) cap) (gs.take i++gs.drop (i+1))/\H (λk=>k=g) w w':=by
 have⟨_,_,n,G,K,_⟩:=h.form;have P:gs.length<=cap:=by
  simp only[Value.slice.injEq] at n;omega
 have B4:cap<=9223372036854775807:=by
  simp only[Value.slice.injEq] at n;have:maxLen<=9223372036854775807:=I;omega
 have⟨i0,Q,R⟩:=ahe;have⟨N,hN⟩:=Ze (gs.length);have⟨news,c⟩:=Ze ((gs.drop (i+1)).map (λg=>Value.pointer (some (E g 0))));have hlen:news.length=N - (i+1):=by rw[c,hN];simp
 have p:∀t,t<N - (i+1)->∃b:i+1+t<gs.length,news[t]?=some (.pointer (some ⟨gs[i+1+t],0,none⟩)):=by
  intro t ht;refine⟨Z,?_⟩;rw[c,List.getElem?_map,List.getElem?_drop,List.getElem?_eq_getElem Z];rfl
 obtain⟨A,hA,S⟩:∃A:Addr,(if cap=i+1 then some ((E g 0):Addr) else some (E g (i+1)))=some A/\Hid (∀t u,news[t]?=some u->w.drew.cell? (A.add t)=some u):=by
  by_cases q:cap=i+1
  ·refine⟨E g 0,by simp[q],λt u hu=>?_⟩;have T:news.length=0:=by rw[hlen];omega
   rw[List.length_eq_zero_iff.1 T] at hu;simp at hu
  refine⟨E g (i+1),by simp[q],λt u hu=>?_⟩;have ht:t<N - (i+1):=by
   have:=(List.getElem?_eq_some_iff.1 hu).1;rwa[hlen] at this
  have⟨b,j⟩:=p t ht;rw[j] at hu;rw[addr_add];exact(WD h _ b).trans hu
 have s1:Hid (news.length=(N - (i+1))*1):=by rw[Nat.mul_one];exact hlen
 have s2:Hid (∀u∈news,u.oneCell'=true):=by
  intro u hu;rw[c] at hu;obtain⟨x,_,rfl⟩:=List.mem_map.1 hu;rfl
 have s3:Hid (∀t,t<news.length->(w.drew.cell? (E g (0+i*1+t))).isSome=true/\w.drew.frozen? (E g (0+i*1+t))=false):=by
  intro t ht;rw[hlen] at ht;rw[Nat.mul_one,Nat.zero_add];refine⟨?_,h.fz _⟩;show(w.cell? _).isSome=true;rw[WD h (i+t) Z];rfl
 have⟨a,l⟩:=Ze (w.drew.setCells g (0+i*1) news);have r:w.ownsRow 0 155 1 (Zs g N cap) N (fl cn gs):=by
  rwa[hN]
 have⟨d,o⟩:=FB news (fl cn gs) (0+i*1) _ (W3 r);rw[<-l] at d o;have f:(fl cn gs).length=N:=by rw[Gt,List.length_map,hN]
 have e1:zJ (fl cn gs) (0+i*1) news=(fl cn gs).take i++news++(fl cn gs).drop (N - 1):=by
  rw[Nat.mul_one,Nat.zero_add,Fm _ _ _ (by rw[f,hlen];omega),hlen];congr 2;omega
 rw[e1] at d;have⟨s,v⟩:=FB (List.replicate (N - (i+(N - (i+1)))) (.pointer none)) _ (i+(N - (i+1))) a d;have z:=W4 s (m:=N - 1) Z;have B:(zJ ((fl cn gs).take i++news++(fl cn gs).drop (N - 1)) (i+(N - (i+1))) (List.replicate (N - (i+(N - (i+1)))) (.pointer none))).take ((N - 1)*1)=fl cn (gs.take i++gs.drop (i+1)):=by
  have l1:((fl cn gs).take i++news).length=N - 1:=by rw[List.length_append,List.length_take,f,hlen];omega
  have l2:i+(N - (i+1))=N - 1:=Z;have U:((fl cn gs).take i++news++(fl cn gs).drop (N - 1)).length=N:=by rw[List.length_append,l1,List.length_drop,f];omega
  have t1:((fl cn gs).take i++news++(fl cn gs).drop (N - 1)).take (N - 1)=(fl cn gs).take i++news:=by
   rw[List.take_append_of_le_length (by rw[l1];exact Nat.le_refl _),List.take_of_length_le (by rw[l1];exact Nat.le_refl _)]
  rw[l2,Fm _ _ _ (by rw[U,List.length_replicate];omega),t1,Nat.mul_one,List.append_assoc ((fl cn gs).take i++news),List.take_append_of_le_length (by rw[l1];exact Nat.le_refl _),List.take_of_length_le (by rw[l1];exact Nat.le_refl _),c,Gt,Gt,List.map_append,List.map_take]
 rw[B] at z;have C:Hid (ax cn (a.setCells g (i+(N - (i+1))) (List.replicate (N - (i+(N - (i+1)))) (.pointer none))) 0 155 (Zs g (N - 1) cap) (gs.take i++gs.drop (i+1))/\H (λk=>k=g) w (a.setCells g (i+(N - (i+1))) (List.replicate (N - (i+(N - (i+1)))) (.pointer none)))):=by
  refine⟨?_,(((H.refl (λk=>k=g) w).drew).trans o).trans v⟩;show World.ownsRow _ _ _ _ _ (gs.take i++gs.drop (i+1)).length _;have:(gs.take i++gs.drop (i+1)).length=N - 1:=by rw[List.length_append,List.length_take,List.length_drop];omega
  rwa[this]
 have D:∀t,t<N->a.cell? (E g t)≠none:=λt ht b=>by
  have fQ:((fl cn gs).take i++news++(fl cn gs).drop (N - 1)).length=N:=by
   rw[List.length_append,List.length_append,List.length_take,List.length_drop,f,hlen];omega
  have j:=World.ownsRow.cells d (g:=g) rfl t _ (List.getElem?_eq_getElem Z);rw[addr_add,Nat.zero_add,b] at j;cases j
 have F:∀t,a.frozen? (E g t)=false:=λt=>by rw[l,World.frozen?_setCells];exact h.fz t
 have dA:∀ty,(Builtin.clear_ #[202] ty #[.slice (some ⟨g,i+(N - (i+1)),none⟩) (N - (i+(N - (i+1)))) (cap - (i+(N - (i+1))))]).run prog a=.ok (.tuple #[]) (a.setCells g (i+(N - (i+1))) (List.replicate (N - (i+(N - (i+1)))) (.pointer none))):=
  λty=>Lib.run_clear_slice a _ _ ty _ underlying202 (λw=>Wh w) rfl rfl g (i+(N - (i+1))) _ _ Z (λt ht=>by
   have:=D (i+(N - (i+1))+t) Z;cases b:a.cell? ⟨g,i+(N - (i+1))+t,none⟩ with
   |none=>exact absurd b this
   |some y=>rfl) (λt ht=>F _)
 have V:=Y l;have W:i<N:=Z;have X:N<=cap:=Z;have fq:N<10000000:=Z;have qA:0<=(i:Int)+1/\(i:Int)+1<=(N:Int):=Z;have aa:i<=cap:=Z;have ab:i+1<=cap:=Z;have HN:=Y hN;rw[<-hN];clear l c hlen p h r d o s v z e1 B f D F hN hi hn P n G K;go_enter func226,ntmps226;go_wp2_with fail
 go_region_law (refine step_append_room rfl (.tmp 22) (.tmp 25) 202 rfl 155 i0 1 underlying202 Q R g 0 i cap (by simp[Act.eval,Act.put]) A (N - (i+1)) (cap - (i+1)) news (by simp[Act.eval,Act.put]) s1.j S.j s2.j Z s3.j ?_;rw[<-V.j])
 go_wp2
 go_ret;refine⟨?_,C.j.1,C.j.2⟩;rw[show N - 1=i+(N - (i+1)) from Z];rfl
end
section
variable {c g:Nat}
theorem agK(h:AN w qb c cur T0 v gs)(l:gs.Nodup)(m:∀x∈gs,Lv w x)(n:Lv w g):Zk 139 #[.pointer (some (E qb c)),M g] w λe w'=>(∃x,Zr e x)/\Kf w qb c cur T0 v (gs.filter (λx=>decide (x≠g))) w':=by
 have r:=Y h;have o:=Y (agM h.o h.n m g n)
 cases hi:zc gs g with
 |none=>
  have d:gs.filter (λx=>decide (x≠g))=gs:=by
   rw[List.filter_eq_self];intro a ha;have:=jQ hi a ha;simpa using this
  have C:Hid (Kf w qb c cur T0 v (gs.filter (λx=>decide (x≠g))) w):=by
   rw[d];refine⟨v,h.o,?_,H.refl _ _,λk hk=>Or.inl hk⟩
   have:cur.setIfInBounds c v=cur:=by
    apply Array.ext
    ·simp
    intro j h1 D;rw[Array.getElem_setIfInBounds (by simpa using h1)];by_cases e:c=j
    ·subst e;rw[if_pos rfl];have:=h.c';rw[Array.getElem?_eq_getElem D] at this;injection this with this
     exact this.symm
    rw[if_neg e]
   rw[this];exact h.b
  have p:Hid (FT (zc gs g)= -1):=by rw[hi];exact rfl
  obtain⟨q,F,hv,_⟩:=h.o.form;obtain⟨N,hN⟩:=Ze (gs.length);rw[<-hN] at hv;subst hv;have c0:=h.c0;clear h hi d hN l m n;go_enter func139,ntmps139;go_wp2_with fail;refine o.j.e1 ?_;rw[p.j];go_wp2_with fail
  all_goals
   go_end0
   exact⟨⟨_,rfl⟩,C.j⟩
 |some i=>
  obtain⟨f,s⟩:=sZ hi;rw[Nat.sub_zero] at f;have t:gs[i]=g:=by simpa using s
  have d:gs.filter (λx=>decide (x≠g))=gs.take i++gs.drop (i+1):=by rw[<-t];exact aaV l f
  rw[d];obtain⟨q,F,hv,_,_,u⟩:=h.o.form;obtain⟨b,rfl,_⟩:=u Z;subst hv;have y:=Y (agP h.o f h.n);have p:Hid (FT (zc gs g)=(i:Int)):=by rw[hi];exact rfl
  obtain⟨N,hN⟩:=Ze (gs.length);have c0:=h.c0;have hn:=h.n;rw[<-hN] at y c0 hn f o r;have K:(0:Int)<=(i:Int):=Z;have P:=Zf i Z;clear h hi d hN l m n s t u hn;go_enter func139,ntmps139;go_wp2_with fail;refine o.j.e1 ?_;rw[p.j];go_wp2_with fail;refine y.j.m ?_;rintro e w3 ⟨rfl,z,A⟩;obtain⟨⟨Q,R⟩,S,B⟩:=r.j.put z (A.mono (λk _ e=>by rw[e];rfl)) (λk hk=>Or.inl hk);have G:=Y B;clear z A B c0;go_wp2_with fail
  all_goals
   go_end0;exact⟨⟨_,rfl⟩,G.j⟩
end
theorem Rc{p:α->Bool}:∀(l:List α) (i k:Nat) (y:α) (hi:i<l.length),p y=p l[i]->dL p (l.set i y) k=dL p l k
 |[],i,k,y,hi,h=>by cases hi
 |a::l,0,k,y,hi,h=>by
  have b:p y=p a:=h;show dL p (y::l) k=dL p (a::l) k
  simp only[dL,b]
 |a::l,i+1,k,y,hi,h=>by
  have:=Rc l i (k+1) y (by simpa using hi) (by simpa using h);show dL p (a::l.set i y) k=dL p (a::l) k;simp only[dL,this]
theorem JT(hi:i<es.length)(y)(hy:y.num=es[i].num)(n):du (es.set i y) n=du es n:=by
 unfold du;refine Rc es i 0 y hi ?_;rw[hy]
theorem bZ.queue(h:bZ U w xb mb D G vt vq ts t lf es Q)(j)(a:j<64)(c:(Q j).length<=1000000):AN w xb (4+j) (wF vt t lf mb vq) 208 (qv vq j) ((Q j).map G):=by
 refine⟨h.x,?_,h.qs j a,λk hk e=>?_,?_⟩
 ·unfold wF;rw[List.getElem?_toArray,Nat.add_comm];exact agJ vq j (h.lq▸a)
 ·have⟨cur,b⟩:=cW (h.qs j a) hk;exact ef b h.x I e
 rw[List.length_map];omega
theorem acs(vt t lf mb vq j v):(wF vt t lf mb vq).setIfInBounds (4+j) v=wF vt t lf mb (vq.set j v):=by
 unfold wF;rw[List.setIfInBounds_toArray,Nat.add_comm];rfl
theorem Qg(vq j i v)(a:j<vq.length):qv (vq.set j v) i=if i=j then v else qv vq i:=by
 unfold qv;rw[List.getD_eq_getElem?_getD,List.getD_eq_getElem?_getD,List.getElem?_set];by_cases e:i=j
 ·rw[if_pos e,if_pos e.symm,if_pos a];rfl
 rw[if_neg e,if_neg (λh=>e h.symm)]
theorem bZ.yw(h:bZ U w xb mb D G vt vq ts t lf es Q){j:Nat}(f:j<64)(x:Kf w xb (4+j) (wF vt t lf mb vq) 208 (qv vq j) (l.map G) w2):
  (∃y,bZ U w2 xb mb D G vt y ts t lf es (λi=>if i=j then l else Q i))/\Zn U w w2:=by
 have⟨v',A,hb,n,q⟩:=x;have r:=h.lq▸f;have v:∀k,(∃c T,w.heap[k]?=some (.cells c T (0,0))/\T≠208/\T≠155)->¬(k=xb\/(qv vq j).ownBlock=some k):=by
  rintro k ⟨c,T,d,n1,n2⟩ (e|e)
  ·rw[e] at d;exact ef d h.x n1 rfl
  have⟨cur,z⟩:=cW (h.qs j f) e;exact ef d z n2 rfl
 refine⟨⟨vq.set j v',?_,by rw[List.length_set];exact h.lq,h.t'.kept n (λk hk=>?_),Bw h.m n ?_,h.hs,h.ha,λe he=>H.keep n (h.rn e he) (v _ ⟨_,_,h.rn e he,I,I⟩),h.gi,λi hi=>?_,λa b k ha u h1 g=>?_,h.ux,h.ut,h.um,h.ur,λi k hi hk=>?_,λk hk=>Nat.lt_of_lt_of_le (h.low k hk) n.size,h.nl,h.ix⟩,n.mono (λk _ hk=>?_)⟩
 ·rw[hb,acs]
 ·have⟨cur,d⟩:=cW h.t' hk;exact v k ⟨_,_,d,I,I⟩
 ·rintro(e|e)
  ·exact zU h.x h.m e.symm
  have⟨cur,d⟩:=cW (h.qs j f) e;exact zU d h.m rfl
 ·rw[Qg _ _ _ _ r];by_cases e:i=j
  ·rwa[if_pos e,if_pos e]
  rw[if_neg e,if_neg e];refine(h.qs i hi).kept n (λk hk s=>?_);rcases s with s|s
  ·have⟨cur,d⟩:=cW (h.qs i hi) hk;exact ef d h.x I s
  exact e (h.qd i j k hi f hk s)
 ·rw[Qg _ _ _ _ r] at h1 g;by_cases p:a=j
  ·by_cases o:b=j
   ·rw[p,o]
   rw[if_pos p] at h1;rw[if_neg o] at g;rcases q k h1 with m|m
   ·exact absurd (h.qd b j k u f g m) o
   have:=(iu (h.qs b u) g).2;omega
  by_cases o:b=j
  ·rw[if_neg p] at h1;rw[if_pos o] at g;rcases q k g with m|m
   ·exact absurd (h.qd a j k ha f h1 m) p
   have:=(iu (h.qs a ha) h1).2;omega
  rw[if_neg p] at h1;rw[if_neg o] at g;exact h.qd a b k ha u h1 g
 ·rw[Qg _ _ _ _ r] at hk;by_cases e:i=j
  ·rw[if_pos e] at hk;rcases q k hk with m|m
   ·exact h.uq j k f m
   intro hu;have:=h.low k hu;omega
  rw[if_neg e] at hk;exact h.uq i k hi hk
 rcases hk with hk|hk
 ·rw[hk];exact h.ux
 exact h.uq j k f hk
theorem Mz{y e:Et}(hi:i<es.length)(hy:y.num=es[i].num)(he:e∈es.set i y):∃f∈es,f.num=e.num:=by
 rcases mh hi he with rfl|⟨h,_⟩
 ·exact⟨es[i],List.getElem_mem hi,hy.symm⟩
 exact⟨e,h,rfl⟩
theorem bZ.jv(h:bZ U w xb mb D G vt vq ts t lf es Q)(p:(es.map (·.num)).Nodup)(hi:i<es.length)(y:Et)(hy:y.num=es[i].num)(b:H (λk=>k=G y.num) w w2)(hb:w2.heap[G y.num]?=some (.cells (sI y) 158 (0,0))):
  bZ U w2 xb mb D G vt vq ts t lf (es.set i y) Q/\Zn U w w2:=by
 have hg:=h.rn _ (List.getElem_mem hi);rw[<-hy] at hg;have q:¬U (G y.num):=by rw[hy];exact h.ur _ (List.getElem_mem hi)
 refine⟨⟨H.keep b h.x (λe=>ef hg h.x I e.symm),h.lq,h.t'.kept b (λk hk e=>?_),?_,λk hk=>?_,λk a z ha=>?_,λe he=>?_,λe he f hf o=>?_,λj c=>(h.qs j c).kept b (λk hk e=>?_),h.qd,h.ux,h.ut,h.um,λe he=>?_,h.uq,λk hk=>Nat.lt_of_lt_of_le (h.low k hk) b.size,by rw[List.length_set];exact h.nl,λe he=>by obtain⟨f,hf,r⟩:=Mz hi hy he;rw[<-r];exact h.ix f hf⟩,b.mono (λk _ hk=>hk▸q)⟩
 ·have⟨cur,d⟩:=cW h.t' hk;exact ef hg d I e.symm
 ·rw[List.length_set];exact Bw h.m b (λe=>zU hg h.m e.symm)
 ·rw[JT hi y hy];exact h.hs k hk
 ·rw[JT hi y hy] at ha;exact h.ha k a z ha
 ·rcases mh hi he with rfl|⟨hm,j,c,s,rfl⟩
  ·exact hb
  refine H.keep b (h.rn _ hm) (λe=>?_);rw[hy] at e;exact wU p c hi s (h.gi _ hm _ (List.getElem_mem hi) e)
 ·have⟨g,l,m⟩:=Mz hi hy he;have⟨f',n,u⟩:=Mz hi hy hf;rw[<-m,<-u] at o|-;exact h.gi g l f' n o
 ·have⟨cur,d⟩:=cW (h.qs j c) hk;exact ef hg d I e.symm
 have⟨g,l,m⟩:=Mz hi hy he;rw[<-m];exact h.ur g l
theorem bZ.VX(h:bZ U w xb mb D G vt vq ts t lf es Q)(t2 l2)(a:H (λk=>k=xb) w w2)(hb:w2.heap[xb]?=some (.cells (wF vt t2 l2 mb vq) 208 (0,0))):
  bZ U w2 xb mb D G vt vq ts t2 l2 es Q/\Zn U w w2:=by
 refine⟨⟨hb,h.lq,h.t'.kept a (λk hk e=>?_),Bw h.m a (λe=>zU h.x h.m e.symm),h.hs,h.ha,λe he=>H.keep a (h.rn e he) (λd=>ef (h.rn e he) h.x I d),h.gi,λj c=>(h.qs j c).kept a (λk hk e=>?_),h.qd,h.ux,h.ut,h.um,h.ur,h.uq,λk hk=>Nat.lt_of_lt_of_le (h.low k hk) a.size,h.nl,h.ix⟩,a.mono (λk _ hk=>hk▸h.ux)⟩
 ·have⟨cur,b⟩:=cW h.t' hk;exact ef h.x b I e.symm
 have⟨cur,b⟩:=cW (h.qs j c) hk;exact ef h.x b I e.symm
theorem bZ.yE(h:bZ U w xb mb D G vt vq ts t lf es Q)(t2:Nat):bZ U (w.setCell (E xb 1) (O (t2:Int))) xb mb D G vt vq ts t2 lf es Q/\Zn U w (w.setCell (E xb 1) (O (t2:Int))):=
 h.VX t2 lf (H.setCell (S:=λk=>k=xb) (H.refl _ w) (Or.inl rfl) _) (by rw[heap_setCell_same _ _ 1 _ _ (O (t2:Int)) h.x];unfold wF;rw[List.setIfInBounds_toArray];rfl)
theorem bZ.cQ(h:bZ U w xb mb D G vt vq ts t lf es Q)(x):bZ U (w.setCell (E xb 2) (O x)) xb mb D G vt vq ts t x es Q/\Zn U w (w.setCell (E xb 2) (O x)):=
 h.VX t x (H.setCell (S:=λk=>k=xb) (H.refl _ w) (Or.inl rfl) _) (by rw[heap_setCell_same _ _ 2 _ _ (O x) h.x];unfold wF;rw[List.setIfInBounds_toArray];rfl)
theorem bZ.ah5(h:bZ U w xb mb D G vt vq ts t lf es Q)(a:(es.map (·.num)).Nodup)(hi:i<es.length)(y:Et)(hy:y.num=es[i].num)(c:Nat)(v:Z3)(b:sI y=(sI es[i]).setIfInBounds c v):
  bZ U (w.setCell ⟨G es[i].num,c,none⟩ v) xb mb D G vt vq ts t lf (es.set i y) Q/\Zn U w (w.setCell ⟨G es[i].num,c,none⟩ v):=by
 refine h.jv a hi y hy ?_ ?_
 ·rw[hy];exact H.setCell (S:=λk=>k=G es[i].num) (H.refl _ w) (Or.inl rfl) _
 rw[hy,heap_setCell_same _ _ c _ _ v (h.rn _ (List.getElem_mem hi)),b]
end Go.Proofs.YtdjlkahbpdoemaaGreatDoor

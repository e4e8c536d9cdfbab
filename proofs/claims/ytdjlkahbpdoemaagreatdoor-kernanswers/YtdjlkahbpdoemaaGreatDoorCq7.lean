import Derived.Test.YtdjlkahbpdoemaaGreatDoorCq5
import Derived.Test.YtdjlkahbpdoemaaGreatDoorCq6
import Derived.LaidEqlPtr
import Derived.Lib.SliceRun
import Derived.Shelf.SlicesE.Delete
set_option maxRecDepth 100000
set_option maxHeartbeats 8000000
set_option linter.unusedVariables false
set_option linter.unusedSimpArgs false
open Go Go.Vx Go.Proofs.Tryz Go.ChangeShapes Go.WideShapes Go.ChangeAt Go.RowKit
namespace Go.Proofs.YtdjlkahbpdoemaaGreatDoor
variable {cur:Array Value}{D DP DW:DataW Value}{P n q:Int}{G GP GW:Int->Nat}{Q:Int->Value}{a b o y:Int×Int}{ks:List Int}{JN gs:List Nat}{ps:List Pc}{ws:List Wt}{os rs vI:Lp}{N gb i mb mp mw qb xb:Nat}{fr:Nat×Nat}{T0 e t:TypeId}{w w2 w3:Z0}{S U V:Z1}{v v':Z3}
def jg(os:Lp)(q:Int):Int×Int:=match GG os q with|none=>(0,0)|some i=>os.getD i (0,0)
theorem WO(os:Lp)(q):(∃o∈os,o.2=q)\/∀o∈os,o.2≠q:=by
 by_cases h:∃o∈os,o.2=q
 ·exact Or.inl h
 exact Or.inr λo a b=>h ⟨o,a,b⟩
theorem Qq(h:∀o∈os,o.2≠q):jg os q=(0,0):=by
 unfold jg;cases hi:GG os q with
 |none=>rfl
 |some i=>
  have⟨a,hp⟩:=sZ hi;exact absurd (of_decide_eq_true hp) (h _ (List.getElem_mem a))
theorem ahT(hn:(os.map (·.2)).Nodup)(ha:a∈os)(hb:b∈os)(h:a.2=b.2):a=b:=by
 obtain⟨i,hi,rfl⟩:=List.getElem_of_mem ha;obtain⟨j,d,rfl⟩:=List.getElem_of_mem hb;have h1:=List.pairwise_iff_getElem.1 hn;rcases Nat.lt_trichotomy i j with c|c|c
 ·exact absurd (by rw[List.getElem_map,List.getElem_map];exact h) (h1 i j (by simpa using hi) (by simpa using d) c)
 ·subst c;rfl
 exact absurd (by rw[List.getElem_map,List.getElem_map];exact h.symm) (h1 j i (by simpa using d) (by simpa using hi) c)
theorem Mo(hn:(os.map (·.2)).Nodup)(h:o∈os):jg os o.2=o:=by
 unfold jg;cases hi:GG os o.2 with
 |none=>have:=jQ hi o h;simp at this
 |some i=>
  have⟨a,hp⟩:=sZ hi;have h1:os.getD i (0,0)=os[i - 0]:=by simp[List.getD_eq_getElem?_getD];rw[List.getElem?_eq_getElem (by simpa using a)];rfl
  dsimp only;rw[h1];exact ahT hn (List.getElem_mem a) h (of_decide_eq_true hp)
def oA(N:Nat)(os:Lp):Lp:=(List.range N).map (λk:Nat=>jg os (k:Int))
theorem Dv(N os):(oA N os).length=N:=by unfold oA;simp
theorem Mf(k)(hk:k<(oA N os).length):(oA N os)[k]=jg os (k:Int):=by
 have a:k<N:=by rw[Dv] at hk;exact hk
 have h:(oA N os)[k]?=some (jg os (k:Int)):=by unfold oA;rw[List.getElem?_map,List.getElem?_range a];rfl
 rw[List.getElem?_eq_getElem hk] at h;injection h
theorem agh{q:Nat}(h1:jg vI (q:Int)=y)(a:∀k:Nat,k≠q->jg vI (k:Int)=jg os (k:Int)):oA N vI=(oA N os).set q y:=by
 apply List.ext_getElem
 ·rw[List.length_set,Dv,Dv]
 intro k b c;rw[Mf,List.getElem_set];by_cases hk:q=k
 ·subst hk;rw[if_pos rfl,h1]
 rw[if_neg hk,Mf,a k (λe=>hk e.symm)]
theorem WR(hn:(os.map (·.2)).Nodup)(hf:∀x∈os,x.2≠o.2)(q:Int):jg (os++[o]) q=if q=o.2 then o else jg os q:=by
 have f:((os++[o]).map (·.2)).Nodup:=by
  rw[List.map_append,List.nodup_append];refine⟨hn,by simp,λa ha b hb=>?_⟩;obtain⟨x,c,rfl⟩:=List.mem_map.1 ha;simp only[List.map_cons,List.map_nil,List.mem_singleton] at hb;rw[hb];exact hf x c
 by_cases d:q=o.2
 ·rw[if_pos d,d];exact Mo f (by simp)
 rw[if_neg d];rcases WO os q with⟨x,c,rfl⟩|h
 ·rw[Mo hn c];exact Mo f (by simp[c])
 rw[Qq h];refine Qq λx c=>?_;rcases List.mem_append.1 c with c|c
 ·exact h x c
 rw[List.mem_singleton] at c;subst c;exact λe=>d e.symm
theorem WQ(h:ie P os rs)(q):(jg os q).1≠0↔∃o∈os,o.2=q:=by
 rcases WO os q with⟨x,a,rfl⟩|b
 ·rw[Mo h.on a];have:=h.ok x a;exact⟨λ_=>⟨x,a,rfl⟩,λ_=>Z⟩
 rw[Qq b];exact⟨λh=>absurd rfl h,λ⟨o,c,he⟩=>absurd he (b o c)⟩
theorem ap9(P os q)(h:0<=q/\q<P):atR P os q=(jg os q,0):=by
 unfold atR jg;rw[if_neg Z];cases GG os q<;>rfl
structure dw(U:Z1)(w:Z0)(xb mb gb:Nat)(D:DataW Value)(N:Nat)(os rs:Lp):Prop where
 x:w.heap[xb]?=some (.cells #[.map (some mb),Zs gb N N] 212 (0,0))
 m:w.ownsMap prog 3 RI mb rs.length D
 hs:∀k,af k->Maps.has D (.int .i64 k)=(sK rs k).isSome
 ha:∀k i z,sK rs k=some i->D.atKey (.int .i64 k) z=.lit (.int .i64 (rs.getD i (0,0)).2)
 pg:ax dG w 0 71 (Zs gb N N) (oA N os)
 ux:¬U xb
 um:¬U mb
 ug:¬U gb
 low:∀k,U k->k<w.heap.size
theorem dw.gl(h:dw U w xb mb gb D N os rs):gb<w.heap.size:=(iu h.pg rfl).2
theorem dw.aside(h:dw U w xb mb gb D N os rs)(a:H S w w2)(s1:¬S xb)(s2:¬S mb)(s3:¬S gb)(v1:¬V xb)(v2:¬V mb)(v3:¬V gb)(b:∀k,V k->k<w2.heap.size):dw V w2 xb mb gb D N os rs:=
 ⟨H.keep a h.x s1,QM h.m a s2,h.hs,h.ha,h.pg.kept a (λj c=>by
  have:gb=j:=by simpa[Value.ownBlock] using c
  rw[<-this];exact s3),v1,v2,v3,b⟩
theorem dw.step(h:dw U w xb mb gb D N os rs)(c:H S w w2)(b:∀k,k<w.heap.size->S k->U k)(d:∀k,V k->U k\/(w.heap.size<=k/\k<w2.heap.size)):dw V w2 xb mb gb D N os rs:=by
 have l1:=aB h.x;have e:=h.m.lt;have f:=h.gl;have hv:∀k,k<w.heap.size->¬U k->¬V k:=λk hk hu hv=>by
  rcases d k hv with a|a
  ·exact hu a
  omega
 exact h.aside c (λs=>h.ux (b _ l1 s)) (λs=>h.um (b _ e s)) (λs=>h.ug (b _ f s)) (hv _ l1 h.ux) (hv _ e h.um) (hv _ f h.ug) (λk hk=>by
  rcases d k hk with a|a
  ·exact Nat.lt_of_lt_of_le (h.low k a) c.size
  exact a.2)
theorem dw.quiet(h:dw U w xb mb gb D N os rs)(a:Zq w w2):dw U w2 xb mb gb D N os rs:=h.step a (λ_ _ h=>h.elim) (λ_ h=>Or.inl h)
theorem dw.c0(h:dw U w xb mb gb D N os rs):w.cell? (E xb 0)=some (.map (some mb)):=Zl h.x
theorem dw.c1(h:dw U w xb mb gb D N os rs):w.cell? (E xb 1)=some (Zs gb N N):=Zl h.x
theorem dw.It(h:dw U w xb mb gb D N os rs)(k)(hk:k<N):w.cell? (E gb (k*2))=some (.int .i64 (jg os (k:Int)).1)/\w.cell? (E gb (k*2+1))=some (.int .i64 (jg os (k:Int)).2):=by
 have c:k<(oA N os).length:=by rw[Dv];exact hk
 have a:=h.pg.cell k 0 c I;have b:=h.pg.cell k 1 c I;rw[Mf] at a b;exact⟨a,b⟩
theorem dw.look(h:dw U w xb mb gb D N os rs)(k)(hk:af k):
  (Instr.lookup 209 (.map (some mb)) (.int .i64 k) true).run prog w=.ok (.tuple #[.int .i64 (nE rs k).1,.bool (sK rs k).isSome]) w:=by
 have⟨v2,c,fN,b⟩:=h.m.look_ok (t:=209) (e:=3) ry underlying209 (aja w) (XH (k:=0) (by unfold af;omega)) (zW hk);have d:D.atKey (.int .i64 k) (.lit (.int .i64 0))=.lit (.int .i64 (nE rs k).1):=by
  unfold nE;cases hs:sK rs k with
  |some i=>exact h.ha k i _ hs
  |none=>exact Maps.atKey_of_not_has (by rw[h.hs k hk,hs];rfl) _
 rw[d] at b;obtain⟨a,rfl,he,_⟩:=Wk b;simp only[Prod.mk.injEq,DataW.lit.injEq,Lit.int.injEq,true_and] at he;rw[fN,he.1,h.hs k hk]
theorem Mh(h:n∈rs.map (·.1)):∃i,sK rs n=some i:=by
 obtain⟨r,hr,rfl⟩:=List.mem_map.1 h;cases hi:sK rs r.1 with
 |some i=>exact⟨i,rfl⟩
 |none=>have:=jQ hi r hr;simp at this
theorem QQ(h:(sK rs n).isSome=true):n∈rs.map (·.1):=by
 have⟨i,hi⟩:=Option.isSome_iff_exists.1 h;have⟨a,b⟩:=P9 hi;exact List.mem_map.2 ⟨_,List.getElem_mem a,b⟩
def qP(U:Z1)(w:Z0)(xb:Nat)(P:Int)(os rs:Lp):Prop:=ie P os rs/\∃mb gb D N,P=((N:Nat):Int)/\dw U w xb mb gb D N os rs
theorem qP.wf(h:qP U w xb P os rs):ie P os rs:=h.1
theorem qP.step(h:qP U w xb P os rs)(a:H S w w2)(b:∀k,k<w.heap.size->S k->U k)(c:∀k,V k->U k\/(w.heap.size<=k/\k<w2.heap.size)):qP V w2 xb P os rs:=by
 have⟨hw,mb,gb,D,N,d,e⟩:=h;exact⟨hw,mb,gb,D,N,d,e.step a b c⟩
structure i6(w:Z0)(mb:Nat)(D:DataW Value)(ks:List Int)(G:Int->Nat):Prop where
 own:w.ownsMap prog 3 RP mb ks.length D
 has:∀k,af k->(Maps.has D (.int .i64 k)=true↔k∈ks)
 val:∀k∈ks,∀z,D.atKey (.int .i64 k) z=.held (.pointer (some ⟨G k,0,none⟩))
 nd:ks.Nodup
 ix:∀k∈ks,af k
def yK(G:Int->Nat)(ks:List Int)(k:Int):Value:=if k∈ks then .pointer (some ⟨G k,0,none⟩) else .pointer none
theorem i6.look(h:i6 w mb D ks G)(ht:prog.underlying t=some (.map 3 e))(a:∀w,(zeroValue e).run prog w=.ok (.pointer none) w)(k)(hk:af k):
  (Instr.lookup t (.map (some mb)) (.int .i64 k) false).run prog w=.ok (yK G ks k) w:=by
 have b:RP (.pointer none)=some (.held (.pointer none),[]):=rfl;have⟨v,ps,hr,hv⟩:=h.own.lookup (t:=t) (e:=e) ry ht (a w) b (zW hk);have c:D.atKey (.int .i64 k) (.held (.pointer none))=.held (yK G ks k):=by
  unfold yK;by_cases hs:k∈ks
  ·rw[if_pos hs];exact h.val k hs _
  rw[if_neg hs];exact Maps.atKey_of_not_has (by
   cases d:Maps.has D (.int .i64 k) with
   |false=>rfl
   |true=>exact absurd ((h.has k hk).1 d) hs) _
 rw[c] at hv;obtain⟨p,rfl,he⟩:=P3 hv;simp only[Prod.mk.injEq,DataW.held.injEq] at he;rw[hr,he.1]
theorem i6.keep(h:i6 w mb D ks G)(a:H S w w2)(hb:¬S mb):i6 w2 mb D ks G:=⟨Bw h.own a hb,h.has,h.val,h.nd,h.ix⟩
theorem i6.ne(h:i6 w mb D ks G){j:Nat}{c:Array Value}(a:w.heap[j]?=some (.cells c t fr)):j≠mb:=zU a h.own
theorem i6.made(w:Z0)(G):i6 (w.alloc (.map #[] 0)) w.heap.size (.map []) [] G:=
 ⟨World.ownsMap_made w prog 3 RP,λk hk=>⟨λh=>by simp[Maps.has_eq] at h,λh=>(by cases h)⟩,λk hk=>(by cases hk),List.nodup_nil,λk hk=>(by cases hk)⟩
section
variable {n:Nat}
theorem i6.put(h:i6 w mb D ks G)(ht:prog.underlying t=some (.map 3 e))(p:ks.length<maxLen)(n)(hn:af n)(q:n∉ks)(g):
  ∃w3,(Instr.mapUpdate t (.map (some mb)) (.int .i64 n) (M g)).run prog w=.ok () w3/\i6 w3 mb (D.put (.int .i64 n) (.held (M g))) (ks++[n]) (kK G n g)/\H (λj=>j=mb) w w3:=by
 have⟨w3,r,i,s⟩:=h.own.update (t:=t) (e:=e) ry ht p (zW hn) (val:=M g) (d:=.held (M g)) (ps:=[]) rfl;have c:∀k∈ks,k≠n:=λk hk e=>q (e▸hk);have l:(ks++[n]).Nodup:=by
  rw[List.nodup_append];refine⟨h.nd,by simp,λa ha b hb=>?_⟩;rw[List.mem_singleton] at hb;rw[hb];exact c a ha
 have m:∀k∈ks++[n],af k:=λk hk=>by
  rcases List.mem_append.1 hk with hk|hk
  ·exact h.ix k hk
  rw[List.mem_singleton] at hk;rwa[hk]
 have f:∀k,af k->(Maps.has (D.put (.int .i64 n) (.held (M g))) (.int .i64 k)=true↔k∈ks++[n]):=λk hk=>by
  rw[List.mem_append];by_cases he:k=n
  ·subst he;rw[Maps.has_put_same h.own.isMap (My hn)];simp
  rw[Maps.has_put_other (FM he),h.has k hk];simp[he]
 refine⟨w3,r,⟨?_,f,λk hk z=>?_,l,m⟩,QL s⟩
 ·have:=QK i;rwa[(Mx (ks:=ks++[n]) i (λk u v=>(f k u).1 v) (λk o=>(f k (m k o)).2 o) l).2] at this
 rcases List.mem_append.1 hk with hk|hk
 ·rw[Maps.atKey_put_other (FM (c k hk)),yH G g (c k hk)];exact h.val k hk z
 rw[List.mem_singleton] at hk;subst hk;rw[Bt];exact Maps.atKey_put_same h.own.isMap (My hn) _ z
theorem i6.del(h:i6 w mb D ks G)(ht:prog.underlying t=some (.map 3 e))(n)(hn:af n):
  ∃w3,(∀ty,(Builtin.delete_ #[t,3] ty #[.map (some mb),.int .i64 n]).run prog w=.ok (.tuple #[]) w3)/\i6 w3 mb (D.del (.int .i64 n)) (ks.filter λk=>decide (k≠n)) G/\H (λj=>j=mb) w w3:=by
 have⟨w3,g,b,i⟩:=h.own.drop (t:=t) (e:=e) ry ht (zW hn) 0;have c:(ks.filter λk=>decide (k≠n)).Nodup:=List.Nodup.sublist List.filter_sublist h.nd;have a:∀k,af k->(Maps.has (D.del (.int .i64 n)) (.int .i64 k)=true↔k∈ks.filter λk=>decide (k≠n)):=λk hk=>by
  rw[List.mem_filter];by_cases he:k=n
  ·subst he;rw[Maps.has_del_same];simp
  rw[Maps.has_del_other (FM he),h.has k hk];simp[he]
 have d:∀k∈ks.filter (λk=>decide (k≠n)),af k:=λk hk=>h.ix k (List.mem_filter.1 hk).1;refine⟨w3,λty=>g,⟨?_,a,λk hk z=>?_,c,d⟩,QL i.grown⟩
 ·have:=QK b;rwa[(Mx b (λk l m=>(a k l).1 m) (λk f=>(a k (d k f)).2 f) c).2] at this
 have⟨h1,o⟩:=List.mem_filter.1 hk;rw[Maps.atKey_del_other (FM (of_decide_eq_true o))];exact h.val k h1 z
end
theorem Q5(w):(zeroValue 250).run prog w=.ok (.pointer none) w:=Zx
theorem iwK:Kind prog cn 302 250:=sY (z:=.pointer none) (b:=8) underlying302 Zx rfl I
section
variable {c:Nat}
structure xU(w:Z0)(qb c:Nat)(cur:Array Value)(T0:TypeId)(v:Z3)(gs:List Nat):Prop where
 b:w.heap[qb]?=some (.cells cur T0 (0,0))
 c':cur[c]?=some v
 o:ax cn w 0 250 v gs
 ne:∀k,v.ownBlock=some k->k≠qb
 n:gs.length<10000000
theorem xU.c0(h:xU w qb c cur T0 v gs):w.cell? (E qb c)=some v:=(cell_of_row _ _ c _ _ (0,0) h.b).trans h.c'
def Kr(w:Z0)(qb c:Nat)(cur:Array Value)(T0:TypeId)(v:Z3)(gs:List Nat)(w':Z0):Prop:=∃v',ax cn w' 0 250 v' gs/\w'.heap[qb]?=some (.cells (cur.setIfInBounds c v') T0 (0,0))/\H (λk=>k=qb\/v.ownBlock=some k) w w'/\∀k,v'.ownBlock=some k->v.ownBlock=some k\/w.heap.size<=k
theorem xU.put(h:xU w qb c cur T0 v gs)(f:ax cn w3 0 250 v' JN)(a:H (λk=>v.ownBlock=some k) w w3)(b:∀k,v'.ownBlock=some k->v.ownBlock=some k\/w.heap.size<=k):
  (∃x,w3.cell? (E qb c)=some x)/\w3.frozen? (E qb c)=false/\Kr w qb c cur T0 v JN (w3.setCell (E qb c) v'):=by
 have hb:=H.keep a h.b (λe=>h.ne qb e rfl);have d:H (λk=>k=qb) w3 (w3.setCell (E qb c) v'):=H.setCell (S:=λk=>k=qb) (H.refl _ _) (Or.inl rfl) _;refine⟨⟨_,(cell_of_row _ _ c _ _ (0,0) hb).trans h.c'⟩,by simp[World.frozen?,hb],v',?_,?_,?_,b⟩
 ·refine ax.kept f d (λk hk e=>?_);rcases b k hk with h1|h1
  ·exact h.ne k h1 e
  have:=aB h.b;omega
 ·exact heap_setCell_same _ _ c _ _ v' hb
 exact(a.mono (λk _ h=>Or.inr h)).trans (d.mono (λk _ h=>Or.inl h))
end
section
variable {c g:Nat}
theorem alM(h:xU w qb c cur T0 v gs)(g):Zk 266 #[.pointer (some (E qb c)),M g] w λe w'=>(∃x,Zr e x)/\Kr w qb c cur T0 v (gs++[g]) w':=by
 have b:=Y h;have⟨q,k,hv,_⟩:=h.o.form;have⟨N,hN⟩:=Ze (gs.length);rw[<-hN] at hv;subst hv;have c0:=h.c0;have l:Hid (gs.length+1<=10000000):=by show _<=_;have:=h.n;omega
 clear h hN;go_enter func266,ntmps266;go_wp2_with (at_builtin;refine wH iwK _ rfl _ _ rfl 0 (.slice q N k) _ rfl b.j.o g _ _ rfl rfl rfl l.j (Nat.zero_le _) ?_;intro v' n a d f;obtain⟨o,p,i,_⟩:=a.form;generalize (gs++[g]).length=mz at i;subst i;obtain⟨⟨r,s⟩,t,j⟩:=b.j.put a d (X0 f);have m:=Y j;clear a d f j);all_goals
  go_end0;exact⟨⟨_,rfl⟩,m.j⟩
end
section
variable {c:Nat}
theorem Yy(h:xU w qb c cur T0 v []):Zk 185 #[.pointer (some (E qb c))] w λe w'=>Zr e (.tuple #[.pointer none,.bool false])/\w'=w:=by
 have⟨q,b,hv,_⟩:=h.o.form;have a:([]:List Nat).length=0:=rfl;rw[a] at hv;subst hv;have c0:=h.c0;go_enter func185,ntmps185;go_wp2_with fail;all_goals
  go_ret2;exact⟨rfl,rfl⟩
end
section
variable {c g:Nat}
theorem Yz(h:xU w qb c cur T0 v (g::gs)):Zk 185 #[.pointer (some (E qb c))] w λe w'=>Zr e (.tuple #[M g,.bool true])/\w'=w:=by
 have⟨q,a,hv,_,_,hg⟩:=h.o.form;obtain⟨b,rfl,_⟩:=hg (by simp);subst hv;have d:w.cell? (E b 0)=some (M g):=h.o.cell 0 0 (by simp) I;have⟨N,hN⟩:=Ze (gs.length);have c0:=h.c0;have hn:=h.n;rw[List.length_cons,<-hN] at c0 hn;have h1:(0:Int)<(N:Int)+1:=Z;have f:(((N+1:Nat):Int)==0)=false:=ZF;have i:¬((N:Int)+1=0):=Z;go_enter func185,ntmps185;go_wp2_with fail;all_goals
  go_ret2;exact⟨rfl,rfl⟩
end
theorem Yc:(prog.info? 252).map (·.size)=some 9:=Zx
theorem alO{x:Nat}(a:Lv w x):(binOp .eql 250 (M x) (M x)).run prog w=.ok (.bool true) w:=by
 have h:=Yc;cases hi:prog.info? 252 with
 |none=>rw[hi] at h;cases h
 |some j=>exact run_eql_ptr_same w _ underlying250 hi
theorem alP{x y:Nat}(a:Lv w x)(hy:Lv w y)(hn:x≠y):(binOp .eql 250 (M x) (M y)).run prog w=.ok (.bool false) w:=by
 have h:=Yc;have⟨c1,t1,a⟩:=a;have⟨c2,t2,hy⟩:=hy;cases hi:prog.info? 252 with
 |none=>rw[hi] at h;cases h
 |some j=>
  rw[hi] at h;refine run_eql_ptr_other w (te:=252) underlying250 hi ?_ (λe=>hn (by injection e)) a hy;have:j.size=9:=by injection h
  omega
section
variable {g:Nat}
theorem alN(h:ax cn w 0 250 v gs)(hn:gs.length<10000000)(q:∀x∈gs,Lv w x)(g)(r:Lv w g):Zk 315 #[v,M g] w λe w'=>Zr e (O (FT (zc gs g)))/\w'=w:=by
 obtain⟨p,t,rfl,_,_,hg⟩:=h.form;have hb:∀(k:Nat) (hk:k<gs.length),∃b,p=some (E b 0)/\w.cell? (E b k)=some (.pointer (some ⟨gs[k],0,none⟩)):=λk hk=>by
  obtain⟨b,rfl,_⟩:=hg Z;refine⟨b,rfl,?_⟩;have:=h.cell k 0 hk I;have e:cn.sz=1:=rfl;rwa[e,Nat.mul_one,Nat.add_zero] at this
 have s:=Y hb;have i:=Y r;have⟨N,hN⟩:=Ze (gs.length);have j:=Y hN;rw[<-hN] at hn|-;clear h hb hg hN;go_enter func315,ntmps315
 go_wp2;go_loopw [5,8] (λ_ d wr=>∃k:Nat,d=O (k:Int)/\k<=N/\Hid (dL (λb:Nat=>decide (b=g)) (gs.drop k) k=zc gs g)/\wr=w) (λ_ d _=>N - (RowKit.intOf d).toNat)
 case atStart=>exact⟨0,rfl,Z,(show dL _ (gs.drop 0) 0=_ from by rw[List.drop_zero];rfl),rfl⟩
 case round=>
  obtain⟨k,rfl,hk,l,rfl⟩:=hrel;by_cases u:k<N
  ·have f:k<gs.length:=by have:=j.j;omega
   have h1:(k:Int)<(N:Int):=Z;have y:0<=(k:Int)/\(k:Int)<(N:Int):=Z;have z:=Zf k Z;obtain⟨b,rfl,n⟩:=s.j k f;have a:=l.j;rw[YA gs k f] at a;by_cases he:gs[k]=g
   ·rw[if_pos (decide_eq_true he)] at a;have c:=Y a;rw[he] at n;have o:=alO i.j;go_wp2_with fail;all_goals
     go_ret;exact⟨by rw[<-c.j];rfl,rfl⟩
   rw[if_neg (by simpa using he)] at a;have c:=Y a;have o:=alP i.j ((Y q).j gs[k] (List.getElem_mem f)) (λe=>he e.symm);generalize gs[k]=m at n he o;go_wp2;go_roundw
   case rel=>exact⟨k+1,by go_num,Z,c,trivial⟩
   case measure=>exact Zm
  obtain rfl:k=N:=Z;have a:=l.j;rw[j.j,YD] at a;have c:=Y a;have h1:¬(k:Int)<(k:Int):=Z;go_wp2_with fail;all_goals
   go_ret;exact⟨by rw[<-c.j];rfl,rfl⟩
theorem Yd{cap:Nat}(h:ax cn w 0 250 (Zs g N cap) gs)(k)(hk:k<gs.length):w.cell? (E g k)=some (.pointer (some ⟨gs[k],0,none⟩)):=by
 have:=h.cell k 0 hk I;have e:cn.sz=1:=rfl;rwa[e,Nat.mul_one,Nat.add_zero] at this
end
theorem alg:∃i,prog.info? 250=some i/\i.size=1:=by
 have h:(prog.info? 250).map (·.size)=some 1:=Zx;cases hi:prog.info? 250 with
 |none=>rw[hi] at h;cases h
 |some i=>rw[hi] at h;exact⟨i,rfl,by injection h⟩
section
variable {g:Nat}
theorem alQ{cap:Nat}(h:ax cn w 0 250 (Zs g gs.length cap) gs)(hi:i<gs.length)(hn:gs.length<10000000):
  Zk 316 #[Zs g gs.length cap,O (i:Int),O ((i:Int)+1)] w λe w'=>Zr e (Zs g (gs.length - 1) cap)/\ax cn w' 0 250 (Zs g (gs.length - 1) cap) (gs.take i++gs.drop (i+1))/\H (λk=>k=g) w w':=by
 have⟨_,_,n,G,K,_⟩:=h.form;have P:gs.length<=cap:=by
  simp only[Value.slice.injEq] at n;omega
 have B4:cap<=9223372036854775807:=by
  simp only[Value.slice.injEq] at n;have:maxLen<=9223372036854775807:=I;omega
 have⟨i0,Q,R⟩:=alg;have⟨N,hN⟩:=Ze (gs.length);have⟨news,c⟩:=Ze ((gs.drop (i+1)).map (λg=>Value.pointer (some (E g 0))));have hlen:news.length=N - (i+1):=by rw[c,hN];simp
 have p:∀t,t<N - (i+1)->∃b:i+1+t<gs.length,news[t]?=some (.pointer (some ⟨gs[i+1+t],0,none⟩)):=by
  intro t ht;refine⟨Z,?_⟩;rw[c,List.getElem?_map,List.getElem?_drop,List.getElem?_eq_getElem Z];rfl
 obtain⟨A,hA,S⟩:∃A:Addr,(if cap=i+1 then some ((E g 0):Addr) else some (E g (i+1)))=some A/\Hid (∀t u,news[t]?=some u->w.drew.cell? (A.add t)=some u):=by
  by_cases q:cap=i+1
  ·refine⟨E g 0,by simp[q],λt u hu=>?_⟩;have T:news.length=0:=by rw[hlen];omega
   rw[List.length_eq_zero_iff.1 T] at hu;simp at hu
  refine⟨E g (i+1),by simp[q],λt u hu=>?_⟩;have ht:t<N - (i+1):=by
   have:=(List.getElem?_eq_some_iff.1 hu).1;rwa[hlen] at this
  have⟨b,j⟩:=p t ht;rw[j] at hu;rw[addr_add];exact(Yd h _ b).trans hu
 have s1:Hid (news.length=(N - (i+1))*1):=by rw[Nat.mul_one];exact hlen
 have s2:Hid (∀u∈news,u.oneCell'=true):=by
  intro u hu;rw[c] at hu;obtain⟨x,_,rfl⟩:=List.mem_map.1 hu;rfl
 have s3:Hid (∀t,t<news.length->(w.drew.cell? (E g (0+i*1+t))).isSome=true/\w.drew.frozen? (E g (0+i*1+t))=false):=by
  intro t ht;rw[hlen] at ht;rw[Nat.mul_one,Nat.zero_add];refine⟨?_,h.fz _⟩;show(w.cell? _).isSome=true;rw[Yd h (i+t) Z];rfl
 have⟨a,l⟩:=Ze (w.drew.setCells g (0+i*1) news);have r:w.ownsRow 0 250 1 (Zs g N cap) N (fl cn gs):=by
  rwa[hN]
 have⟨d,o⟩:=FB news (fl cn gs) (0+i*1) _ (W3 r);rw[<-l] at d o;have f:(fl cn gs).length=N:=by rw[Gt,List.length_map,hN]
 have e1:zJ (fl cn gs) (0+i*1) news=(fl cn gs).take i++news++(fl cn gs).drop (N - 1):=by
  rw[Nat.mul_one,Nat.zero_add,Fm _ _ _ (by rw[f,hlen];omega),hlen];congr 2;omega
 rw[e1] at d;have⟨s,v⟩:=FB (List.replicate (N - (i+(N - (i+1)))) (.pointer none)) _ (i+(N - (i+1))) a d;have z:=W4 s (m:=N - 1) Z;have B:(zJ ((fl cn gs).take i++news++(fl cn gs).drop (N - 1)) (i+(N - (i+1))) (List.replicate (N - (i+(N - (i+1)))) (.pointer none))).take ((N - 1)*1)=fl cn (gs.take i++gs.drop (i+1)):=by
  have l1:((fl cn gs).take i++news).length=N - 1:=by rw[List.length_append,List.length_take,f,hlen];omega
  have U:i+(N - (i+1))=N - 1:=Z;have V:((fl cn gs).take i++news++(fl cn gs).drop (N - 1)).length=N:=by rw[List.length_append,l1,List.length_drop,f];omega
  have t1:((fl cn gs).take i++news++(fl cn gs).drop (N - 1)).take (N - 1)=(fl cn gs).take i++news:=by
   rw[List.take_append_of_le_length (by rw[l1];exact Nat.le_refl _),List.take_of_length_le (by rw[l1];exact Nat.le_refl _)]
  rw[U,Fm _ _ _ (by rw[V,List.length_replicate];omega),t1,Nat.mul_one,List.append_assoc ((fl cn gs).take i++news),List.take_append_of_le_length (by rw[l1];exact Nat.le_refl _),List.take_of_length_le (by rw[l1];exact Nat.le_refl _),c,Gt,Gt,List.map_append,List.map_take]
 rw[B] at z;have C:Hid (ax cn (a.setCells g (i+(N - (i+1))) (List.replicate (N - (i+(N - (i+1)))) (.pointer none))) 0 250 (Zs g (N - 1) cap) (gs.take i++gs.drop (i+1))/\H (λk=>k=g) w (a.setCells g (i+(N - (i+1))) (List.replicate (N - (i+(N - (i+1)))) (.pointer none)))):=by
  refine⟨?_,(((H.refl (λk=>k=g) w).drew).trans o).trans v⟩;show World.ownsRow _ _ _ _ _ (gs.take i++gs.drop (i+1)).length _;have:(gs.take i++gs.drop (i+1)).length=N - 1:=by rw[List.length_append,List.length_take,List.length_drop];omega
  rwa[this]
 have D:∀t,t<N->a.cell? (E g t)≠none:=λt ht b=>by
  have fQ:((fl cn gs).take i++news++(fl cn gs).drop (N - 1)).length=N:=by
   rw[List.length_append,List.length_append,List.length_take,List.length_drop,f,hlen];omega
  have j:=World.ownsRow.cells d (g:=g) rfl t _ (List.getElem?_eq_getElem Z);rw[addr_add,Nat.zero_add,b] at j;cases j
 have F:∀t,a.frozen? (E g t)=false:=λt=>by rw[l,World.frozen?_setCells];exact h.fz t
 have dA:∀ty,(Builtin.clear_ #[302] ty #[.slice (some ⟨g,i+(N - (i+1)),none⟩) (N - (i+(N - (i+1)))) (cap - (i+(N - (i+1))))]).run prog a=.ok (.tuple #[]) (a.setCells g (i+(N - (i+1))) (List.replicate (N - (i+(N - (i+1)))) (.pointer none))):=
  λty=>Lib.run_clear_slice a _ _ ty _ underlying302 (λw=>Q5 w) rfl rfl g (i+(N - (i+1))) _ _ Z (λt ht=>by
   have:=D (i+(N - (i+1))+t) Z;cases b:a.cell? ⟨g,i+(N - (i+1))+t,none⟩ with
   |none=>exact absurd b this
   |some y=>rfl) (λt ht=>F _)
 have W:=Y l;have X:i<N:=Z;have aa:N<=cap:=Z;have fq:N<10000000:=Z;have qA:0<=(i:Int)+1/\(i:Int)+1<=(N:Int):=Z;have ab:i<=cap:=Z;have ad:i+1<=cap:=Z;have HN:=Y hN;rw[<-hN];clear l c hlen p h r d o s v z e1 B f D F hN hi hn P n G K;go_enter func316,ntmps316;go_wp2_with fail
 go_region_law (refine step_append_room rfl (.tmp 22) (.tmp 25) 302 rfl 250 i0 1 underlying302 Q R g 0 i cap (by simp[Act.eval,Act.put]) A (N - (i+1)) (cap - (i+1)) news (by simp[Act.eval,Act.put]) s1.j S.j s2.j Z s3.j ?_;rw[<-W.j])
 go_wp2
 go_ret;refine⟨?_,C.j.1,C.j.2⟩;rw[show N - 1=i+(N - (i+1)) from Z];rfl
end
section
variable {c g:Nat}
theorem alL(h:xU w qb c cur T0 v gs)(l:gs.Nodup)(m:∀x∈gs,Lv w x)(n:Lv w g):Zk 265 #[.pointer (some (E qb c)),M g] w λe w'=>(∃x,Zr e x)/\Kr w qb c cur T0 v (gs.filter (λx=>decide (x≠g))) w':=by
 have r:=Y h;have o:=Y (alN h.o h.n m g n)
 cases hi:zc gs g with
 |none=>
  have d:gs.filter (λx=>decide (x≠g))=gs:=by
   rw[List.filter_eq_self];intro a ha;have:=jQ hi a ha;simpa using this
  have C:Hid (Kr w qb c cur T0 v (gs.filter (λx=>decide (x≠g))) w):=by
   rw[d];refine⟨v,h.o,?_,H.refl _ _,λk hk=>Or.inl hk⟩
   have:cur.setIfInBounds c v=cur:=by
    apply Array.ext
    ·simp
    intro j h1 D;rw[Array.getElem_setIfInBounds (by simpa using h1)];by_cases e:c=j
    ·subst e;rw[if_pos rfl];have:=h.c';rw[Array.getElem?_eq_getElem D] at this;injection this with this
     exact this.symm
    rw[if_neg e]
   rw[this];exact h.b
  have p:Hid (FT (zc gs g)= -1):=by rw[hi];exact rfl
  obtain⟨q,F,hv,_⟩:=h.o.form;obtain⟨N,hN⟩:=Ze (gs.length);rw[<-hN] at hv;subst hv;have c0:=h.c0;clear h hi d hN l m n;go_enter func265,ntmps265;go_wp2_with fail;refine o.j.e1 ?_;rw[p.j];go_wp2_with fail
  all_goals
   go_end0
   exact⟨⟨_,rfl⟩,C.j⟩
 |some i=>
  obtain⟨f,s⟩:=sZ hi;rw[Nat.sub_zero] at f;have t:gs[i]=g:=by simpa using s
  have d:gs.filter (λx=>decide (x≠g))=gs.take i++gs.drop (i+1):=by rw[<-t];exact aaV l f
  rw[d];obtain⟨q,F,hv,_,_,u⟩:=h.o.form;obtain⟨b,rfl,_⟩:=u Z;subst hv;have y:=Y (alQ h.o f h.n);have p:Hid (FT (zc gs g)=(i:Int)):=by rw[hi];exact rfl
  obtain⟨N,hN⟩:=Ze (gs.length);have c0:=h.c0;have hn:=h.n;rw[<-hN] at y c0 hn f o r;have K:(0:Int)<=(i:Int):=Z;have P:=Zf i Z;clear h hi d hN l m n s t u hn;go_enter func265,ntmps265;go_wp2_with fail;refine o.j.e1 ?_;rw[p.j];go_wp2_with fail;refine y.j.m ?_;rintro e w3 ⟨rfl,z,A⟩;obtain⟨⟨Q,R⟩,S,B⟩:=r.j.put z (A.mono (λk _ e=>by rw[e];rfl)) (λk hk=>Or.inl hk);have G:=Y B;clear z A B c0;go_wp2_with fail
  all_goals
   go_end0;exact⟨⟨_,rfl⟩,G.j⟩
end
theorem MM(w):(zeroValue 298).run prog w=.ok (.pointer none) w:=Zx
def E7(x:Wt):Array Value:=#[O x.bL,O x.at',O x.how,J x.m.ak,J x.m.w0,J x.m.w1,J x.m.w2,J x.m.w3,J x.m.aQ]
def qy(p:Pc)(v:Z3):Array Value:=#[.bool p.ga,J p.word,v]
structure eE(U:Z1)(w:Z0)(xb mp mw:Nat)(DP DW:DataW Value)(GP GW:Int->Nat)(Q:Int->Value)(s:Bs):Prop where
 x:w.heap[xb]?=some (.cells #[.map (some mp),.map (some mw)] 219 (0,0))
 pm:i6 w mp DP (s.ps.map (·.num)) GP
 wm:i6 w mw DW (s.ws.map (·.bL)) GW
 mn:mp≠mw
 pb:∀p∈s.ps,w.heap[GP p.num]?=some (.cells (qy p (Q p.num)) 306 (0,0))
 wb:∀x∈s.ws,w.heap[GW x.bL]?=some (.cells (E7 x) 252 (0,0))
 gp:∀p∈s.ps,∀q∈s.ps,GP p.num=GP q.num->p.num=q.num
 gw:∀x∈s.ws,∀y∈s.ws,GW x.bL=GW y.bL->x.bL=y.bL
 qs:∀p∈s.ps,ax cn w 0 250 (Q p.num) ((eW s p.num).map GW)
 qd:∀p∈s.ps,∀q∈s.ps,∀k,(Q p.num).ownBlock=some k->(Q q.num).ownBlock=some k->p.num=q.num
 ux:¬U xb
 u1:¬U mp
 u2:¬U mw
 up:∀p∈s.ps,¬U (GP p.num)
 uw:∀x∈s.ws,¬U (GW x.bL)
 uq:∀p∈s.ps,∀k,(Q p.num).ownBlock=some k->¬U k
 low:∀k,U k->k<w.heap.size
 np:s.ps.length<=1000000
 nl:s.ws.length<=1000000
section
variable {s:Bs}
theorem eE.aside(h:eE U w xb mp mw DP DW GP GW Q s)(a:H S w w2)(s1:¬S xb)(s2:¬S mp)(s3:¬S mw)(c:∀p∈s.ps,¬S (GP p.num))(d:∀x∈s.ws,¬S (GW x.bL))(e:∀p∈s.ps,∀k,(Q p.num).ownBlock=some k->¬S k)
  (v1:¬V xb) (v2:¬V mp) (v3:¬V mw) (v4:∀p∈s.ps,¬V (GP p.num)) (v5:∀x∈s.ws,¬V (GW x.bL)) (v6:∀p∈s.ps,∀k,(Q p.num).ownBlock=some k->¬V k) (f:∀k,V k->k<w2.heap.size):eE V w2 xb mp mw DP DW GP GW Q s:=
 ⟨H.keep a h.x s1,h.pm.keep a s2,h.wm.keep a s3,h.mn,λp hp=>H.keep a (h.pb p hp) (c p hp),λx b=>H.keep a (h.wb x b) (d x b),h.gp,h.gw,λp hp=>(h.qs p hp).kept a (λk hk=>e p hp k hk),h.qd,v1,v2,v3,v4,v5,v6,f,h.np,h.nl⟩
theorem eE.step(h:eE U w xb mp mw DP DW GP GW Q s)(d:H S w w2)(b:∀k,k<w.heap.size->S k->U k)(e:∀k,V k->U k\/(w.heap.size<=k/\k<w2.heap.size)):eE V w2 xb mp mw DP DW GP GW Q s:=by
 have l1:=aB h.x;have f:=h.pm.own.lt;have g:=h.wm.own.lt;have i:∀p∈s.ps,GP p.num<w.heap.size:=λp hp=>aB (h.pb p hp);have j:∀x∈s.ws,GW x.bL<w.heap.size:=λx a=>aB (h.wb x a);have l:∀p∈s.ps,∀k,(Q p.num).ownBlock=some k->k<w.heap.size:=λp hp k hk=>(iu (h.qs p hp) hk).2;have hv:∀k,k<w.heap.size->¬U k->¬V k:=λk hk hu hv=>by
  rcases e k hv with c|c
  ·exact hu c
  omega
 exact h.aside d (λs=>h.ux (b _ l1 s)) (λs=>h.u1 (b _ f s)) (λs=>h.u2 (b _ g s)) (λp hp s=>h.up p hp (b _ (i p hp) s)) (λx a s=>h.uw x a (b _ (j x a) s)) (λp hp k hk s=>h.uq p hp k hk (b _ (l p hp k hk) s))
  (hv _ l1 h.ux) (hv _ f h.u1) (hv _ g h.u2) (λp hp=>hv _ (i p hp) (h.up p hp)) (λx a=>hv _ (j x a) (h.uw x a)) (λp hp k hk=>hv _ (l p hp k hk) (h.uq p hp k hk)) (λk hk=>by
  rcases e k hk with c|c
  ·exact Nat.lt_of_lt_of_le (h.low k c) d.size
  exact c.2)
theorem eE.quiet(h:eE U w xb mp mw DP DW GP GW Q s)(a:Zq w w2):eE U w2 xb mp mw DP DW GP GW Q s:=h.step a (λ_ _ h=>h.elim) (λ_ h=>Or.inl h)
def eQ(U:Z1)(w:Z0)(xb:Nat)(s:Bs):Prop:=lX s/\∃mp mw DP DW GP GW Q,eE U w xb mp mw DP DW GP GW Q s
theorem eQ.step(h:eQ U w xb s)(a:H S w w2)(b:∀k,k<w.heap.size->S k->U k)(c:∀k,V k->U k\/(w.heap.size<=k/\k<w2.heap.size)):eQ V w2 xb s:=by
 have⟨hb,mp,mw,DP,DW,GP,GW,Q,h⟩:=h;exact⟨hb,mp,mw,DP,DW,GP,GW,Q,h.step a b c⟩
theorem eQ.quiet(h:eQ U w xb s)(a:Zq w w2):eQ U w2 xb s:=h.step a (λ_ _ h=>h.elim) (λ_ h=>Or.inl h)
theorem O6(xb s):abG (λU w=>eQ U w xb s):=λU V S w w2 h a b c=>eQ.step h a b c
theorem eE.c0(h:eE U w xb mp mw DP DW GP GW Q s):w.cell? (E xb 0)=some (.map (some mp)):=Zl h.x
theorem eE.c1(h:eE U w xb mp mw DP DW GP GW Q s):w.cell? (E xb 1)=some (.map (some mw)):=Zl h.x
end
theorem Dz:(∃i,pF ps n=some i)↔n∈ps.map (·.num):=by
 constructor
 ·rintro⟨i,hi⟩;have⟨a,b⟩:=Qw hi;exact List.mem_map.2 ⟨_,List.getElem_mem a,b⟩
 intro h;obtain⟨e,he,rfl⟩:=List.mem_map.1 h;cases hi:pF ps e.num with
 |some i=>exact⟨i,rfl⟩
 |none=>have:=jQ hi e he;simp at this
theorem Py{t:Int}:(∃i,tF ws t=some i)↔t∈ws.map (·.bL):=by
 constructor
 ·rintro⟨i,hi⟩;have⟨a,b⟩:=Vs hi;exact List.mem_map.2 ⟨_,List.getElem_mem a,b⟩
 intro h;obtain⟨e,he,rfl⟩:=List.mem_map.1 h;cases hi:tF ws e.bL with
 |some i=>exact⟨i,rfl⟩
 |none=>have:=jQ hi e he;simp at this
section
variable {s:Bs}
theorem eE.XS(h:eE U w xb mp mw DP DW GP GW Q s)(hi:pF s.ps n=some i)(hn:af n):(Instr.lookup 216 (.map (some mp)) (O n) false).run prog w=.ok (.pointer (some ⟨GP n,0,none⟩)) w:=by
 have:=h.pm.look (t:=216) (e:=298) underlying216 MM n hn;unfold yK at this;rwa[if_pos (Dz.1 ⟨i,hi⟩)] at this
theorem eE.XT(h:eE U w xb mp mw DP DW GP GW Q s)(hi:pF s.ps n=none)(hn:af n):(Instr.lookup 216 (.map (some mp)) (O n) false).run prog w=.ok (.pointer none) w:=by
 have:=h.pm.look (t:=216) (e:=298) underlying216 MM n hn;unfold yK at this;rwa[if_neg (λb=>by obtain⟨i,a⟩:=Dz.2 b;rw[hi] at a;cases a)] at this
theorem eE.XQ(h:eE U w xb mp mw DP DW GP GW Q s)(hi:tF s.ws n=some i)(hn:af n):(Instr.lookup 217 (.map (some mw)) (O n) false).run prog w=.ok (.pointer (some ⟨GW n,0,none⟩)) w:=by
 have:=h.wm.look (t:=217) (e:=250) underlying217 Q5 n hn;unfold yK at this;rwa[if_pos (Py.1 ⟨i,hi⟩)] at this
theorem eE.XR(h:eE U w xb mp mw DP DW GP GW Q s)(hi:tF s.ws n=none)(hn:af n):(Instr.lookup 217 (.map (some mw)) (O n) false).run prog w=.ok (.pointer none) w:=by
 have:=h.wm.look (t:=217) (e:=250) underlying217 Q5 n hn;unfold yK at this;rwa[if_neg (λb=>by obtain⟨i,a⟩:=Py.2 b;rw[hi] at a;cases a)] at this
end
structure L3(w:Z0)(g:Nat)(p:Pc)(v:Z3):Prop where
 c0:w.cell? (E g 0)=some (.bool p.ga)
 c1:w.cell? (E g 1)=some (J p.word)
 c2:w.cell? (E g 2)=some v
 fz:∀j,w.frozen? (E g j)=false
theorem akn{g:Nat}{p:Pc}(h:w.heap[g]?=some (.cells (qy p v) 306 (0,0))):L3 w g p v:=
 ⟨Zl h,Zl h,Zl h,λj=>by simp[World.frozen?,h]⟩
structure V9(w:Z0)(g:Nat)(x:Wt):Prop where
 c0:w.cell? (E g 0)=some (O x.bL)
 c1:w.cell? (E g 1)=some (O x.at')
 c2:w.cell? (E g 2)=some (O x.how)
 c3:w.cell? (E g 3)=some (J x.m.ak)
 c4:w.cell? (E g 4)=some (J x.m.w0)
 c5:w.cell? (E g 5)=some (J x.m.w1)
 c6:w.cell? (E g 6)=some (J x.m.w2)
 c7:w.cell? (E g 7)=some (J x.m.w3)
 c8:w.cell? (E g 8)=some (J x.m.aQ)
 fz:∀j,w.frozen? (E g j)=false
theorem Dl{g:Nat}{x:Wt}(h:w.heap[g]?=some (.cells (E7 x) 252 (0,0))):V9 w g x:=
 ⟨Zl h,Zl h,Zl h,Zl h,Zl h,Zl h,Zl h,Zl h,Zl h,λj=>by simp[World.frozen?,h]⟩
section
variable {s:Bs}
theorem eE.place(h:eE U w xb mp mw DP DW GP GW Q s)(hi:pF s.ps n=some i):∃a:i<s.ps.length,s.ps[i].num=n/\ue s i=s.ps[i]/\w.heap[GP n]?=some (.cells (qy s.ps[i] (Q n)) 306 (0,0))/\L3 w (GP n) s.ps[i] (Q n)/\s.ps[i]∈s.ps:=by
 have⟨a,hn⟩:=Qw hi;have hb:=h.pb _ (List.getElem_mem a);rw[hn] at hb;exact⟨a,hn,Td a,hb,akn hb,List.getElem_mem a⟩
theorem eE.waiter(h:eE U w xb mp mw DP DW GP GW Q s)(hi:tF s.ws n=some i):∃a:i<s.ws.length,s.ws[i].bL=n/\sA s i=s.ws[i]/\w.heap[GW n]?=some (.cells (E7 s.ws[i]) 252 (0,0))/\V9 w (GW n) s.ws[i]/\s.ws[i]∈s.ws:=by
 have⟨a,hn⟩:=Vs hi;have hb:=h.wb _ (List.getElem_mem a);rw[hn] at hb;exact⟨a,hn,Td a,hb,Dl hb,List.getElem_mem a⟩
end
end Go.Proofs.YtdjlkahbpdoemaaGreatDoor

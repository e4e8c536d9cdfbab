import Derived.Test.YtdjlkahbpdoemaaGreatDoorCq4
import Derived.Carry
import Derived.Lib.SlKeysI
import Derived.Maps.OwnSet
import Derived.Maps.RangeWalk
import Derived.Shelf.Abstract
set_option maxRecDepth 100000
set_option maxHeartbeats 8000000
set_option linter.unusedVariables false
set_option linter.unusedSimpArgs false
open Go Go.Vx Go.Proofs.Tryz Go.ChangeShapes Go.WideShapes Go.ChangeAt Go.RowKit
variable {D Z4:DataW Value}{y:DataW Value×List MemPlace}{P:Int}{G:Int->Nat}{b o:Int×Int}{es:List En}{ks:List Int}{gs:List Nat}{xs:List Value}{left:Lit->Bool}{bs os rs:Lp}{fG i mb n r rc size xb:Nat}{fr:Nat×Nat}{a:Sl}{T e t:TypeId}{w w2 w3 w4:Z0}{S U V:Z1}{a0 a1 v:Z3}
namespace Go.Proofs.YtdjlkahbpdoemaaGreatDoor
structure Wx(bs:Lp)(es:List En):Prop where
 nd:(bs.map (·.1)).Nodup
 ib:∀b∈bs,af b.1
 ix:∀e∈es,∃b∈bs,b.1=e.at'.1/\0<=e.at'.2/\e.at'.2<b.2
 kd:∀e∈es,1<=e.cap.kind/\e.cap.kind<=10
 nm:∀e∈es,af e.cap.num
theorem Ma{n m:Int}(h:bq bs n=some m):(n,m)∈bs:=by
 cases b:tH bs n with
 |none=>rw[Mb b] at h;cases h
 |some i=>
  have⟨hi,h1,a⟩:=J5 b;rw[h] at a;injection a with a
  have:bs[i]=(n,m):=Prod.ext h1 a.symm;rw[<-this];exact List.getElem_mem hi
theorem aoO(hn:(bs.map (·.1)).Nodup){a:Int×Int}(ha:a∈bs)(hb:b∈bs)(h:a.1=b.1):a=b:=by
 obtain⟨i,hi,rfl⟩:=List.getElem_of_mem ha;obtain⟨j,d,rfl⟩:=List.getElem_of_mem hb;have h1:=List.pairwise_iff_getElem.1 hn;rcases Nat.lt_trichotomy i j with c|c|c
 ·exact absurd (by rw[List.getElem_map,List.getElem_map];exact h) (h1 i j (by simpa using hi) (by simpa using d) c)
 ·subst c;rfl
 exact absurd (by rw[List.getElem_map,List.getElem_map];exact h.symm) (h1 j i (by simpa using d) (by simpa using hi) c)
theorem FK(hn:(bs.map (·.1)).Nodup)(h:b∈bs):bq bs b.1=some b.2/\∃i,tH bs b.1=some i:=by
 cases a:tH bs b.1 with
 |none=>have:=jQ a b h;simp at this
 |some i=>
  have⟨hi,h1,c⟩:=J5 a;rw[c,aoO hn (List.getElem_mem hi) h h1];exact⟨rfl,i,rfl⟩
theorem anc{s:Sl}(h:oQ bs es s=0):∃n,bq bs s.1=some n/\0<=s.2/\s.2<n/\jW es s=none:=by
 have hf:gY bs es s=.error 11:=by
  unfold oQ at h;rcases JQ bs es s with⟨i,hi,_⟩|hi|hi
  ·rw[hi] at h;cases h
  ·rw[hi] at h;cases h
  exact hi
 unfold gY at hf;cases hs:bq bs s.1 with
 |none=>rw[hs] at hf;cases hf
 |some n=>
  rw[hs] at hf;dsimp only at hf;by_cases a:s.2<0\/n<=s.2
  ·rw[if_pos a] at hf;cases hf
  rw[if_neg a] at hf;refine⟨n,rfl,Z,Z,?_⟩;cases he:jW es s with
  |some i=>rw[he] at hf;cases hf
  |none=>rfl
theorem Ww{f:Sl}{c:Cp}(h:fU bs es a c f=0):1<=c.kind/\c.kind<=10/\oQ bs es a=0:=by
 unfold fU at h;by_cases hk:c.kind<1\/10<c.kind
 ·rw[if_pos hk] at h;cases h
 rw[if_neg hk] at h;by_cases hf:oQ bs es a=0
 ·exact⟨Z,Z,hf⟩
 rw[if_neg hf] at h;exact absurd h hf
theorem Wx.put(h:Wx bs es)(a c f)(b:af c.num):Wx bs (iQ bs es a c f):=by
 unfold iQ;by_cases he:fU bs es a c f=0
 ·rw[if_pos he];have⟨d,g,hf⟩:=Ww he;have⟨n,hs,h1,i,_⟩:=anc hf;refine⟨h.nd,h.ib,λe hm=>?_,λe hm=>?_,λe hm=>?_⟩
  ·rcases uh.1 hm with rfl|hm
   ·exact⟨_,Ma hs,rfl,h1,i⟩
   exact h.ix e hm
  ·rcases uh.1 hm with rfl|hm
   ·exact⟨d,g⟩
   exact h.kd e hm
  rcases uh.1 hm with rfl|hm
  ·exact b
  exact h.nm e hm
 rwa[if_neg he]
theorem V8{a b:Cp}(h:uc a b=true):a.kind=b.kind/\a.num=b.num:=of_decide_eq_true h
theorem Wx.set(h:Wx bs es)(s c):Wx bs (gO bs es s c):=by
 unfold gO;cases hf:gY bs es s with
 |error e=>exact h
 |ok i=>
  dsimp only;have⟨hi,f⟩:=JR hf;by_cases he:uc (es.getD i .df).cap c=true
  ·rw[if_pos he];rw[getD_at es i hi] at he|-;refine⟨h.nd,h.ib,λe hm=>?_,λe hm=>?_,λe hm=>?_⟩
   ·have⟨b,d,a,_⟩:=zX hi hm;rw[a];exact h.ix b d
   ·obtain⟨b,d,_,_,a|a⟩:=zX hi hm
    ·rw[a,<-(V8 he).1];exact h.kd _ (List.getElem_mem hi)
    rw[a];exact h.kd b d
   obtain⟨b,d,_,_,a|a⟩:=zX hi hm
   ·rw[a,<-(V8 he).2];exact h.nm _ (List.getElem_mem hi)
   rw[a];exact h.nm b d
  rwa[if_neg he]
theorem Wx.make(h:Wx bs es)(num n)(hn:af num):Wx (kL bs num n) es:=by
 unfold kL;by_cases he:mM bs num n=0
 ·rw[if_pos he];have d:tH bs num=none:=by
   unfold mM at he;split at he
   ·cases he
   cases hb:tH bs num with
   |none=>rfl
   |some i=>rw[hb] at he;cases he
  refine⟨?_,λb hb=>?_,λe hm=>?_,h.kd,h.nm⟩
  ·rw[List.map_append,List.nodup_append];refine⟨h.nd,by simp,λa ha b hb=>?_⟩;obtain⟨c,f,rfl⟩:=List.mem_map.1 ha;have h1:=jQ d c f;simp only[List.map_cons,List.map_nil,List.mem_cons,List.not_mem_nil,or_false] at hb;subst hb;exact of_decide_eq_false h1
  ·rcases List.mem_append.1 hb with hb|hb
   ·exact h.ib b hb
   simp only[List.mem_cons,List.not_mem_nil,or_false] at hb;subst hb;exact hn
  have⟨b,hb,h1⟩:=h.ix e hm;exact⟨b,List.mem_append_left _ hb,h1⟩
 rwa[if_neg he]
abbrev Pl:=Cp×Sl
def Qo(p:Pl):List Value:=bj p.1++eL p.2
theorem ahD(p):Qo p=[O p.1.kind,O p.1.num,O p.1.rights,J p.1.bh,J p.1.guard,O p.1.aC,O p.1.root,J p.1.va,O p.2.1,O p.2.2]:=rfl
def mI:Lay Pl:=⟨Qo,10,λ_=>rfl,λa u hu=>by
 rw[ahD] at hu;simp only[List.mem_cons,List.not_mem_nil,or_false] at hu
 rcases hu with rfl|rfl|rfl|rfl|rfl|rfl|rfl|rfl|rfl|rfl<;>rfl,I⟩
def Dg:Pl:=(lv,(0,0))
def bY(es:List En)(s:Sl):Pl:=match jW es s with|some i=>((es.getD i .df).cap,(es.getD i .df).cw)|none=>Dg
theorem Bo{s:Sl}(h:∀e∈es,e.at'≠s):bY es s=Dg:=by
 unfold bY;cases he:jW es s with
 |none=>rfl
 |some i=>
  have⟨hi,a⟩:=Gv he;exact absurd a (h _ (List.getElem_mem hi))
theorem wQ(a:GN es){e:En}(h:e∈es):bY es e.at'=(e.cap,e.cw):=by
 unfold bY;cases he:jW es e.at' with
 |none=>have:=jQ he e h;simp at this
 |some i=>
  have⟨hi,b⟩:=Gv he;dsimp only;rw[getD_at es i hi,a _ (List.getElem_mem hi) e h b]
theorem TH(es:List En)(s):(∃e∈es,e.at'=s)\/∀e∈es,e.at'≠s:=by
 by_cases h:∃e∈es,e.at'=s
 ·exact Or.inl h
 exact Or.inr λe he a=>h ⟨e,he,a⟩
theorem Mn(h:Wx bs es)(a:GN es)(s):(bY es s).1.kind=0↔∀e∈es,e.at'≠s:=by
 constructor
 ·intro hk e he b;subst b;rw[wQ a he] at hk;have:=h.kd e he;simp only at hk;omega
 intro hn;rw[Bo hn];rfl
theorem Wf.once(h:Wf bs es):GN es:=air h.so.nodup
theorem ahC{x:En}(b:GN es)(a:GN (BH es x))(c:∀e∈es,e.at'≠x.at')(s):bY (BH es x) s=if s=x.at' then (x.cap,x.cw) else bY es s:=by
 by_cases hs:s=x.at'
 ·rw[if_pos hs,hs];exact wQ a (uh.2 (Or.inl rfl))
 rw[if_neg hs];rcases TH es s with⟨e,he,rfl⟩|hn
 ·rw[wQ b he];exact wQ a (uh.2 (Or.inr he))
 rw[Bo hn];refine Bo λe he=>?_;rcases uh.1 he with rfl|he
 ·exact λh=>hs h.symm
 exact hn e he
theorem Qm(hf:Wf bs es)(h:gY bs es a=.ok i):∃hi:i<es.length,es[i].at'=a/\bY es a=(es[i].cap,es[i].cw):=by
 have⟨hi,b⟩:=JR h;refine⟨hi,b,?_⟩;have:=wQ hf.once (List.getElem_mem hi);rwa[b] at this
theorem ahA(hf:Wf bs es)(hw:Wx bs es){f:Sl}{c:Cp}(hg:ot c)(he:fU bs es a c f=0)(s):bY (iQ bs es a c f) s=if s=a then (c,uI f) else bY es s:=by
 have b:=hf.put a c f hg;unfold iQ at b|-;rw[if_pos he] at b|-;obtain⟨_,_,d⟩:=Ww he;exact ahC hf.once b.once (Tf d).2 s
theorem ahz(hf:Wf bs es)(h:gY bs es a=.ok i){c:Cp}(hg:ot c)(f:uc (es.getD i .df).cap c=true)(s):bY (gO bs es a c) s=if s=a then (c,(bY es a).2) else bY es s:=by
 have⟨hi,d,hp⟩:=Qm hf h;have b:=(hf.set a c hg).once;unfold gO at b|-;rw[h] at b|-;dsimp only at b|-;rw[if_pos f,getD_at es i hi] at b|-;by_cases hs:s=a
 ·rw[if_pos hs,hs,hp];have hm:(⟨es[i].at',c,es[i].cw⟩:En)∈es.set i ⟨es[i].at',c,es[i].cw⟩:=List.mem_set hi _;have g:bY (es.set i ⟨es[i].at',c,es[i].cw⟩) a=bY (es.set i ⟨es[i].at',c,es[i].cw⟩) es[i].at':=congrArg (bY (es.set i ⟨es[i].at',c,es[i].cw⟩)) d.symm;rw[g,wQ b hm]
 rw[if_neg hs];rcases TH es s with⟨e,he,rfl⟩|hn
 ·rw[wQ hf.once he];obtain⟨j,k,rfl⟩:=List.getElem_of_mem he;have l:i≠j:=λh=>hs (by subst h;exact d);have hm:es[j]∈es.set i ⟨es[i].at',c,es[i].cw⟩:=by
   rw[List.mem_iff_getElem?];exact⟨j,by rw[List.getElem?_set_ne l,List.getElem?_eq_getElem k]⟩
  exact wQ b hm
 rw[Bo hn];refine Bo λy hy=>?_;have⟨e,he,m,_⟩:=zX hi hy;rw[m];exact hn e he
def j7(Q:Sl->Pl)(num:Int)(n:Nat):List Pl:=(List.range n).map λ(i:Nat)=>Q (num,(i:Int))
theorem Bh(Q num n):(j7 Q num n).length=n:=by simp[j7]
theorem Ih(Q num n k)(hk:k<(j7 Q num n).length):(j7 Q num n)[k]=Q (num,(k:Int)):=by simp[j7]
theorem agc{Q Q':Sl->Pl}{num:Int}{k:Nat}{p:Pl}(h:∀i:Nat,Q' (num,(i:Int))=if i=k then p else Q (num,(i:Int))):j7 Q' num n=(j7 Q num n).set k p:=by
 apply List.ext_getElem
 ·simp[j7]
 intro i h1 a;rw[Ih,h i,List.getElem_set];by_cases hk:i=k
 ·rw[if_pos hk,if_pos hk.symm]
 rw[if_neg hk,if_neg (λh=>hk h.symm),Ih]
theorem agd{Q Q':Sl->Pl}{num:Int}(h:∀i:Nat,Q' (num,(i:Int))=Q (num,(i:Int))):j7 Q' num n=j7 Q num n:=by
 unfold j7;simp only[h]
def yw(Q:Sl->Pl)(a:Sl)(p:Pl):Sl->Pl:=λs=>if s=a then p else Q s
theorem agb(Q num)(n k:Nat)(p):j7 (yw Q (num,(k:Int)) p) num n=(j7 Q num n).set k p:=
 agc λi=>by
  unfold yw;by_cases h:i=k
  ·subst h;simp
  rw[if_neg h,if_neg (by simp;omega)]
theorem age(Q num m n k p)(h:m≠num):j7 (yw Q (num,k) p) m n=j7 Q m n:=
 agd λi=>by
  unfold yw;rw[if_neg (by simp;exact λh1=>absurd h1 h)]
def RH(v:Z3):Option (DataW Value×List MemPlace):=match v with|.slice p n c=>some (.held (.slice p n c),[])|_=>none
theorem abJ(h:RH v=some y):∃p n c,v=.slice p n c/\y=(.held (.slice p n c),[]):=by
 unfold RH at h;split at h
 ·injection h with h;exact⟨_,_,_,rfl,h.symm⟩
 cases h
theorem wf_i64{k:Int}(h:af k):(Lit.int .i64 k).wf=true:=by
 unfold af at h;simp[Lit.wf,IntKind.min,IntKind.max,IntKind.bits,IntKind.signed]<;>omega
theorem alR{k:Int}(h:(Lit.int .i64 k).wf=true):af k:=by
 unfold af;simp[Lit.wf,IntKind.min,IntKind.max,IntKind.bits,IntKind.signed] at h<;>omega
theorem MH{k:Int}(h:af k):keyOf prog 3 (.int .i64 k)=some (.int .i64 k):=Maps.keyOf_int_mk underlying3 (wf_i64 h)
theorem IL:Maps.Keyed prog 3:=Maps.int_keyed underlying3
theorem UF(w):(zeroValue 335).run prog w=.ok (.slice none 0 0) w:=Zx
def wV(G:Int->Nat)(bs:Lp)(k:Int):Value:=match bq bs k with|some n=>.slice (some ⟨G k,0,none⟩) n.toNat n.toNat|none=>.slice none 0 0
structure dC(U:Z1)(w:Z0)(xb mb:Nat)(D:DataW Value)(G:Int->Nat)(bs:Lp)(Q:Sl->Pl):Prop where
 ns:w.heap[1]?=some (.cells #[.int .i64 (-1),.int .i64 (-1)] 45 (0,0))
 x:w.heap[xb]?=some (.cells #[.map (some mb)] 215 (0,0))
 m:w.ownsMap prog 3 RH mb bs.length D
 hs:∀k,af k->Maps.has D (.int .i64 k)=(bq bs k).isSome
 ha:∀k n z,bq bs k=some n->D.atKey (.int .i64 k) z=.held (.slice (some ⟨G k,0,none⟩) n.toNat n.toNat)
 bl:∀k n,bq bs k=some n->ax mI w 0 236 (.slice (some ⟨G k,0,none⟩) n.toNat n.toNat) (j7 Q k n.toNat)
 gi:∀j k,(bq bs j).isSome=true->(bq bs k).isSome=true->G j=G k->j=k
 un:¬U 1
 ux:¬U xb
 um:¬U mb
 ug:∀k,(bq bs k).isSome=true->¬U (G k)
 low:∀k,U k->k<w.heap.size
 bn:∀k n,bq bs k=some n->1<=n/\n<=64
 nd:(bs.map (·.1)).Nodup
 ib:∀b∈bs,af b.1
 nb:bs.length<=1000000
theorem dC.JO{Q:Sl->Pl}(h:dC U w xb mb D G bs Q){k:Int}(hk:(bq bs k).isSome=true):G k<w.heap.size:=by
 have⟨n,hn⟩:=Option.isSome_iff_exists.1 hk;exact(iu (h.bl k n hn) rfl).2
theorem dC.aside{Q:Sl->Pl}(h:dC U w xb mb D G bs Q)(a:H S w w2)(s0:¬S 1)(s1:¬S xb)(s2:¬S mb)(s3:∀k,(bq bs k).isSome=true->¬S (G k))(v0:¬V 1)(v1:¬V xb)(v2:¬V mb)(v3:∀k,(bq bs k).isSome=true->¬V (G k))(b:∀k,V k->k<w2.heap.size):dC V w2 xb mb D G bs Q:=by
 have hm:w2.ownsMap prog 3 RH mb bs.length D:=by
  have⟨e,clock,hb,F,hs,c⟩:=h.m;exact⟨e,clock,(a.block mb h.m.lt s2).trans hb,F,hs,c⟩
 exact⟨(a.block _ (aB h.ns) s0)▸h.ns,(a.block xb (aB h.x) s1)▸h.x,hm,h.hs,h.ha,λk n hk=>(h.bl k n hk).kept a (λj d=>by
  have:G k=j:=by simpa[Value.ownBlock] using d
  rw[<-this];exact s3 k (by rw[hk];rfl)),h.gi,v0,v1,v2,v3,b,h.bn,h.nd,h.ib,h.nb⟩
theorem dC.only{Q:Sl->Pl}(h:dC U w xb mb D G bs Q)(b:H S w w2)(a:∀k,k<w.heap.size->S k->U k):dC U w2 xb mb D G bs Q:=
 h.aside b (λhs=>h.un (a _ (aB h.ns) hs)) (λhs=>h.ux (a _ (aB h.x) hs)) (λhs=>h.um (a _ h.m.lt hs)) (λk hk hs=>h.ug k hk (a _ (h.JO hk) hs)) h.un h.ux h.um h.ug (λk hk=>Nat.lt_of_lt_of_le (h.low k hk) b.size)
theorem dC.quiet{Q:Sl->Pl}(h:dC U w xb mb D G bs Q)(a:Zq w w2):dC U w2 xb mb D G bs Q:=h.only a (λ_ _ h=>h.elim)
theorem dC.c0{Q:Sl->Pl}(h:dC U w xb mb D G bs Q):w.cell? (E xb 0)=some (.map (some mb)):=Zl h.x
theorem dC.look{Q:Sl->Pl}(h:dC U w xb mb D G bs Q)(k)(hk:af k):
  (Instr.lookup 213 (.map (some mb)) (.int .i64 k) false).run prog w=.ok (wV G bs k) w/\
  (Instr.lookup 213 (.map (some mb)) (.int .i64 k) true).run prog w=.ok (.tuple #[wV G bs k,.bool (bq bs k).isSome]) w:=by
 have a:RH (.slice none 0 0)=some (.held (.slice none 0 0),[]):=rfl;have⟨v,ps,hr,hv⟩:=h.m.lookup (t:=213) (e:=335) IL underlying213 (UF w) a (MH hk);have⟨v2,f,fN,b⟩:=h.m.look_ok (t:=213) (e:=335) IL underlying213 (UF w) a (MH hk);have g:D.atKey (.int .i64 k) (.held (.slice none 0 0))=.held (wV G bs k):=by
  unfold wV;cases hs:bq bs k with
  |some n=>exact h.ha k n _ hs
  |none=>exact Maps.atKey_of_not_has (by rw[h.hs k hk,hs];rfl) _
 rw[g] at hv b;obtain⟨p,n,c,rfl,he⟩:=abJ hv;obtain⟨i,n2,c2,rfl,d⟩:=abJ b;simp only[Prod.mk.injEq,DataW.held.injEq] at he d;rw[hr,fN,he.1,<-d.1,he.1,h.hs k hk];exact⟨rfl,rfl⟩
structure CL(w:Z0)(g k:Nat)(p:Pl):Prop where
 c0:w.cell? (E g (k*10))=some (.int .i64 p.1.kind)
 c1:w.cell? (E g (k*10+1))=some (.int .i64 p.1.num)
 c2:w.cell? (E g (k*10+2))=some (.int .i64 p.1.rights)
 c3:w.cell? (E g (k*10+3))=some (.int .u32 p.1.bh)
 c4:w.cell? (E g (k*10+4))=some (.int .u32 p.1.guard)
 c5:w.cell? (E g (k*10+5))=some (.int .i64 p.1.aC)
 c6:w.cell? (E g (k*10+6))=some (.int .i64 p.1.root)
 c7:w.cell? (E g (k*10+7))=some (.int .u32 p.1.va)
 c8:w.cell? (E g (k*10+8))=some (.int .i64 p.2.1)
 c9:w.cell? (E g (k*10+9))=some (.int .i64 p.2.2)
theorem ai3{base g c:Nat}{xs:List Pl}(h:ax mI w base T (Zs g n c) xs)(k)(hk:k<xs.length):CL w g k xs[k]:=
 ⟨h.cell k 0 hk I,h.cell k 1 hk I,h.cell k 2 hk I,h.cell k 3 hk I,h.cell k 4 hk I,h.cell k 5 hk I,h.cell k 6 hk I,h.cell k 7 hk I,h.cell k 8 hk I,h.cell k 9 hk I⟩
theorem dC.zP{Q:Sl->Pl}(h:dC U w xb mb D G bs Q){k n:Int}(hn:bq bs k=some n)(i:Nat)(hi:(i:Int)<n):CL w (G k) i (Q (k,(i:Int))):=by
 have a:i<(j7 Q k n.toNat).length:=by rw[Bh];omega
 have:=ai3 (h.bl k n hn) i a;rwa[Ih] at this
theorem IU(p:Pl)(w):Zk 142 #[.agg #[.int .i64 p.1.kind,.int .i64 p.1.num,.int .i64 p.1.rights,.int .u32 p.1.bh,.int .u32 p.1.guard,.int .i64 p.1.aC,.int .i64 p.1.root,.int .u32 p.1.va,.int .i64 p.2.1,.int .i64 p.2.2]] w λe w'=>Zr e (.bool (p.1.kind !=0))/\Zq w w':=by
 have⟨K,a⟩:=Ze (p.1.kind);rw[<-a];go_enter func142,ntmps142;go_wp2_with fail;all_goals
  go_ret;exact⟨by first|rfl|simp_all,(H.refl _ _).alloc _⟩
theorem WJ{base g c m:Nat}{xs:List Pl}(h:ax mI w base T (Zs g m c) xs)(hm:m=xs.length)(k:Nat)(hk:k<xs.length)(y:Pl):
  let W:=((((((((((w.setCell (E g (k*10)) (O y.1.kind)).setCell (E g (k*10+1)) (O y.1.num)).setCell (E g (k*10+2)) (O y.1.rights)).setCell (E g (k*10+3)) (J y.1.bh)).setCell (E g (k*10+4)) (J y.1.guard)).setCell (E g (k*10+5)) (O y.1.aC)).setCell (E g (k*10+6)) (O y.1.root)).setCell (E g (k*10+7)) (J y.1.va)).setCell (E g (k*10+8)) (O y.2.1)).setCell (E g (k*10+9)) (O y.2.2));ax mI W base T (Zs g m c) (xs.set k y)/\H (λb=>b=g) w W:=WZ h hm hk 0 (Qo y) y (Nat.le_of_ble_eq_true rfl) rfl
theorem aht{base g c m:Nat}{xs:List Pl}(h:ax mI w base T (Zs g m c) xs)(hm:m=xs.length)(k:Nat)(hk:k<xs.length)(cp:Cp):
  let W:=((((((((w.setCell (E g (k*10)) (O cp.kind)).setCell (E g (k*10+1)) (O cp.num)).setCell (E g (k*10+2)) (O cp.rights)).setCell (E g (k*10+3)) (J cp.bh)).setCell (E g (k*10+4)) (J cp.guard)).setCell (E g (k*10+5)) (O cp.aC)).setCell (E g (k*10+6)) (O cp.root)).setCell (E g (k*10+7)) (J cp.va));ax mI W base T (Zs g m c) (xs.set k (cp,xs[k].2))/\H (λb=>b=g) w W:=WZ h hm hk 0 (bj cp) (cp,xs[k].2) (Nat.le_of_ble_eq_true rfl) rfl
theorem IH{n k:Int}(h:bq bs k=some n):wV G bs k=.slice (some ⟨G k,0,none⟩) n.toNat n.toNat:=by unfold wV;rw[h]
theorem QT{k:Int}(h:bq bs k=none):wV G bs k=.slice none 0 0:=by unfold wV;rw[h]
section
variable {Q:Sl->Pl}
theorem acn(h:dC U w xb mb D G bs Q)(k)(hk:af k):Zk 303 #[M xb,O k] w λe w'=>Zr e (.tuple #[O (vA bs k).1,O (vA bs k).2])/\w'=w:=by
 have a:=(h.look k hk).2;have c0:=h.c0;cases hs:bq bs k with
 |none=>
  have b:Hid (vA bs k=(0,6)):=by show vA bs k=_;unfold vA;rw[hs]
  rw[QT hs,hs] at a;have c:=a;go_enter func303,ntmps303;go_wp2_with fail;all_goals
   go_ret2;exact⟨by rw[b.j];try rfl,rfl⟩
 |some n=>
  have hn:=h.bn k n hs;have b:Hid (vA bs k=(n,0)):=by show vA bs k=_;unfold vA;rw[hs]
  rw[IH hs,hs] at a;have c:=a;have e1:((n.toNat:Nat):Int)=n:=Z;go_enter func303,ntmps303;go_wp2_with fail;all_goals
   go_ret2;exact⟨by rw[b.j];first|rfl|rw[e1]|simp[e1],rfl⟩
theorem LW(h:dC U w xb mb D G bs Q)(b)(hb:af b)(k:Nat)(n)(hn:bq bs b=some n)(hk:(k:Int)<n):
  Zk 141 #[M xb,.agg #[O b,O (k:Int)]] w λe w'=>Zr e (.tuple #[.pointer (some ⟨G b,k*10,none⟩),O 0])/\Zq w w':=by
 have⟨w1,a⟩:=Ze (w.alloc (.cells #[O b,O (k:Int)] 45));have c:=Za a;have h1:=h.quiet c;have g:=h.bn b n hn;have⟨N,hN⟩:∃N:Nat,n=(N:Int):=⟨n.toNat,Z⟩;subst hN;have c0:=h1.c0;have m:∀j,(Instr.lookup 213 (.map (some mb)) (O b) false).run prog (w1.drewN j)=.ok (.slice (some ⟨G b,0,none⟩) N N) (w1.drewN j):=λj=>by
  have:=((h1.quiet ((H.refl _ w1).drewN j)).look b hb).1;rwa[IH hn] at this
 have d:=a▸heap_alloc_last _ _;have i:w1.cell? (E w.heap.size 0)=some (O b):=Zl d;have l:w1.cell? (E w.heap.size 1)=some (O (k:Int)):=Zl d;have g1:¬(k:Int)<0:=Z;have g2:¬(N:Int)<=(k:Int):=Z;have o:0<=(k:Int)/\(k:Int)<(N:Int):=Z;go_enter func141,ntmps141;go_wp2_with fail;rw[<-a];have⟨sb,f⟩:=Ze (w.heap.size);rw[<-f] at i l|-;clear a f;go_quiet (fail);go_wp2_with fail
 all_goals
  go_ret2;exact⟨by simp,(Y c).j.trans (by repeat' (first|exact H.refl _ _|refine H.drewN ?_ _|refine H.drew ?_))⟩
theorem aej(h:dC U w xb mb D G bs Q)(b i)(hb:af b)(hn:bq bs b=none)(hi:0<=i):
  Zk 141 #[M xb,.agg #[O b,O i]] w λe w'=>Zr e (.tuple #[.pointer none,O 9])/\Zq w w':=by
 have⟨w1,a⟩:=Ze (w.alloc (.cells #[O b,O i] 45));have c:=Za a;have h1:=h.quiet c;have g1:¬i<0:=Z;have g2:=hi;have c0:=h1.c0;have l:∀j,(Instr.lookup 213 (.map (some mb)) (O b) false).run prog (w1.drewN j)=.ok (.slice none 0 0) (w1.drewN j):=λj=>by
  have:=((h1.quiet ((H.refl _ w1).drewN j)).look b hb).1;rwa[QT (G:=G) hn] at this
 have d:=a▸heap_alloc_last _ _;have g:w1.cell? (E w.heap.size 0)=some (O b):=Zl d;have k:w1.cell? (E w.heap.size 1)=some (O i):=Zl d;go_enter func141,ntmps141;go_wp2_with fail;rw[<-a];have⟨sb,f⟩:=Ze (w.heap.size);rw[<-f] at g k|-;clear a f;go_quiet (fail);go_wp2_with fail
 all_goals
  go_ret2;exact⟨rfl,(Y c).j.trans (by repeat' (first|exact H.refl _ _|refine H.drewN ?_ _|refine H.drew ?_))⟩
theorem aek(h:dC U w xb mb D G bs Q)(b i)(hb:af b)(hi:i<0):
  Zk 141 #[M xb,.agg #[O b,O i]] w λe w'=>Zr e (.tuple #[.pointer none,O 9])/\Zq w w':=by
 have⟨w1,a⟩:=Ze (w.alloc (.cells #[O b,O i] 45));have c:=Za a;have h1:=h.quiet c;have g:wV G bs b=wV G bs b:=rfl;have c0:=h1.c0;have m:∀j,(Instr.lookup 213 (.map (some mb)) (O b) false).run prog (w1.drewN j)=.ok (wV G bs b) (w1.drewN j):=λj=>by
  have:=((h1.quiet ((H.refl _ w1).drewN j)).look b hb).1;rwa[g] at this
 have d:=a▸heap_alloc_last _ _;have k:w1.cell? (E w.heap.size 0)=some (O b):=Zl d;have l:w1.cell? (E w.heap.size 1)=some (O i):=Zl d;go_enter func141,ntmps141;go_wp2_with fail;rw[<-a];have⟨sb,f⟩:=Ze (w.heap.size);rw[<-f] at k l|-;clear a f;go_quiet (fail);go_wp2_with fail
 all_goals
  go_ret2;exact⟨rfl,(Y c).j.trans (by repeat' (first|exact H.refl _ _|refine H.drewN ?_ _|refine H.drew ?_))⟩
theorem ael(h:dC U w xb mb D G bs Q)(b i)(hb:af b)(n)(hn:bq bs b=some n)(hi:n<=i):
  Zk 141 #[M xb,.agg #[O b,O i]] w λe w'=>Zr e (.tuple #[.pointer none,O 9])/\Zq w w':=by
 have⟨w1,a⟩:=Ze (w.alloc (.cells #[O b,O i] 45));have c:=Za a;have h1:=h.quiet c;have g:=h.bn b n hn;have g1:¬i<0:=Z;have g2:((n.toNat:Nat):Int)<=i:=Z;have c0:=h1.c0;have m:∀j,(Instr.lookup 213 (.map (some mb)) (O b) false).run prog (w1.drewN j)=.ok (.slice (some ⟨G b,0,none⟩) n.toNat n.toNat) (w1.drewN j):=λj=>by
  have:=((h1.quiet ((H.refl _ w1).drewN j)).look b hb).1;rwa[IH (G:=G) hn] at this
 have d:=a▸heap_alloc_last _ _;have k:w1.cell? (E w.heap.size 0)=some (O b):=Zl d;have l:w1.cell? (E w.heap.size 1)=some (O i):=Zl d;go_enter func141,ntmps141;go_wp2_with fail;rw[<-a];have⟨sb,f⟩:=Ze (w.heap.size);rw[<-f] at k l|-;clear a f;go_quiet (fail);go_wp2_with fail
 all_goals
  go_ret2;exact⟨rfl,(Y c).j.trans (by repeat' (first|exact H.refl _ _|refine H.drewN ?_ _|refine H.drew ?_))⟩
end
def Kh(bs:Lp)(s:Sl):Prop:=∀n,bq bs s.1=some n->s.2<0\/n<=s.2
section
variable {Q:Sl->Pl}
theorem Vg(h:dC U w xb mb D G bs Q)(s)(hb:af s.1)(a:Kh bs s):
  Zk 141 #[M xb,.agg #[O s.1,O s.2]] w λe w'=>Zr e (.tuple #[.pointer none,O 9])/\Zq w w':=by
 by_cases hi:s.2<0
 ·exact aek h s.1 s.2 hb hi
 cases hn:bq bs s.1 with
 |none=>exact aej h s.1 s.2 hb hn Z
 |some n=>exact ael h s.1 s.2 hb n hn (by rcases a n hn with h1|h1;exact absurd h1 hi;exact h1)
end
theorem Yx(bs s):(∃(k:Nat) (n:Int),s.2=(k:Int)/\bq bs s.1=some n/\(k:Int)<n)\/Kh bs s:=by
 cases hn:bq bs s.1 with
 |none=>exact Or.inr λn h=>by rw[hn] at h;cases h
 |some n=>
  by_cases hi:s.2<0\/n<=s.2
  ·exact Or.inr λm h=>by rw[hn] at h;injection h with h;subst h;exact hi
  exact Or.inl ⟨s.2.toNat,n,Z,rfl,Z⟩
section
variable {Q:Sl->Pl}
theorem acP(h:dC U w xb mb D G bs Q)(b)(hb:af b)(k:Nat)(n)(hn:bq bs b=some n)(hk:(k:Int)<n)(g:(Q (b,(k:Int))).1.kind≠0):
  Zk 98 #[M xb,.agg #[O b,O (k:Int)]] w λe w'=>Zr e (.tuple #[.pointer (some ⟨G b,k*10,none⟩),O 0])/\Zq w w':=by
 have p:=Y h;have i:=Y (λw2(a:Zq w w2)=>LW (h.quiet a) b hb k n hn hk);have j:=Y (λw2(a:Zq w w2)=>(h.quiet a).zP hn k hk);have l:Hid (∀w2,Zk 142 #[.agg #[O (Q (b,(k:Int))).1.kind,O (Q (b,(k:Int))).1.num,O (Q (b,(k:Int))).1.rights,J (Q (b,(k:Int))).1.bh,J (Q (b,(k:Int))).1.guard,O (Q (b,(k:Int))).1.aC,O (Q (b,(k:Int))).1.root,J (Q (b,(k:Int))).1.va,O (Q (b,(k:Int))).2.1,O (Q (b,(k:Int))).2.2]] w2 λe w'=>Zr e (.bool true)/\Zq w2 w'):=λw2=>by
  refine(IU (Q (b,(k:Int))) w2).m ?_;rintro e w' ⟨rfl,c⟩;exact⟨by simp[g],c⟩
 have d:Hid (∀o,Zq w (w.alloc o)):=λo=>(H.refl _ w).alloc o;go_enter func98,ntmps98;go_wp2_with fail;refine(i.j _ (d.j _)).m ?_;rintro e w2 ⟨rfl,c⟩;have f:=Y ((d.j _).trans c);have⟨c0,c1,c2,c3,c4,c5,c6,c7,c8,c9⟩:=j.j w2 f.j;go_wp2_with fail;refine(l.j _).m ?_;rintro e w3 ⟨rfl,m⟩;go_wp2_with fail;all_goals
  go_ret2;exact⟨rfl,(Y (f.j.trans m)).j⟩
theorem acO(h:dC U w xb mb D G bs Q)(b)(hb:af b)(k:Nat)(n)(hn:bq bs b=some n)(hk:(k:Int)<n)(d:(Q (b,(k:Int))).1.kind=0):
  Zk 98 #[M xb,.agg #[O b,O (k:Int)]] w λe w'=>Zr e (.tuple #[.pointer none,O 11])/\Zq w w':=by
 have q:=Y h;have j:=Y (λw2(c:Zq w w2)=>LW (h.quiet c) b hb k n hn hk);have l:=Y (λw2(c:Zq w w2)=>(h.quiet c).zP hn k hk);have m:Hid (∀w2,Zk 142 #[.agg #[O (Q (b,(k:Int))).1.kind,O (Q (b,(k:Int))).1.num,O (Q (b,(k:Int))).1.rights,J (Q (b,(k:Int))).1.bh,J (Q (b,(k:Int))).1.guard,O (Q (b,(k:Int))).1.aC,O (Q (b,(k:Int))).1.root,J (Q (b,(k:Int))).1.va,O (Q (b,(k:Int))).2.1,O (Q (b,(k:Int))).2.2]] w2 λe w'=>Zr e (.bool false)/\Zq w2 w'):=λw2=>by
  refine(IU (Q (b,(k:Int))) w2).m ?_;rintro e w' ⟨rfl,a⟩;exact⟨by simp[d],a⟩
 have f:Hid (∀o,Zq w (w.alloc o)):=λo=>(H.refl _ w).alloc o
 clear h hn hk hb d;go_enter func98,ntmps98;go_wp2_with fail;refine(j.j _ (f.j _)).m ?_;rintro e w2 ⟨rfl,a⟩;have g:Hid (Zq w w2):=(f.j _).trans a;obtain⟨c0,c1,c2,c3,c4,c5,c6,c7,c8,c9⟩:=l.j w2 g.j;clear a;go_wp2_with fail;refine(m.j _).m ?_;rintro e w3 ⟨rfl,i⟩;have p:Hid (Zq w w3):=g.j.trans i;clear i;go_wp2_with fail
 all_goals
  go_ret2;exact⟨rfl,p.j⟩
theorem acT(h:dC U w xb mb D G bs Q)(b)(hb:af b)(k:Nat)(n)(hn:bq bs b=some n)(hk:(k:Int)<n)(d:(Q (b,(k:Int))).1.kind=0):
  Zk 133 #[M xb,.agg #[O b,O (k:Int)]] w λe w'=>Zr e (.tuple #[.pointer (some ⟨G b,k*10,none⟩),O 0])/\Zq w w':=by
 have q:=Y h;have j:=Y (λw2(c:Zq w w2)=>LW (h.quiet c) b hb k n hn hk);have l:=Y (λw2(c:Zq w w2)=>(h.quiet c).zP hn k hk);have m:Hid (∀w2,Zk 142 #[.agg #[O (Q (b,(k:Int))).1.kind,O (Q (b,(k:Int))).1.num,O (Q (b,(k:Int))).1.rights,J (Q (b,(k:Int))).1.bh,J (Q (b,(k:Int))).1.guard,O (Q (b,(k:Int))).1.aC,O (Q (b,(k:Int))).1.root,J (Q (b,(k:Int))).1.va,O (Q (b,(k:Int))).2.1,O (Q (b,(k:Int))).2.2]] w2 λe w'=>Zr e (.bool false)/\Zq w2 w'):=λw2=>by
  refine(IU (Q (b,(k:Int))) w2).m ?_;rintro e w' ⟨rfl,a⟩;exact⟨by simp[d],a⟩
 have f:Hid (∀o,Zq w (w.alloc o)):=λo=>(H.refl _ w).alloc o;clear h hn hk hb d;go_enter func133,ntmps133;go_wp2_with fail;refine(j.j _ (f.j _)).m ?_;rintro e w2 ⟨rfl,a⟩;have g:Hid (Zq w w2):=(f.j _).trans a;obtain⟨c0,c1,c2,c3,c4,c5,c6,c7,c8,c9⟩:=l.j w2 g.j;clear a;go_wp2_with fail;refine(m.j _).m ?_;rintro e w3 ⟨rfl,i⟩;have p:Hid (Zq w w3):=g.j.trans i;clear i;go_wp2_with fail
 all_goals
  go_ret2;exact⟨rfl,p.j⟩
theorem acS(h:dC U w xb mb D G bs Q)(b)(hb:af b)(k:Nat)(n)(hn:bq bs b=some n)(hk:(k:Int)<n)(g:(Q (b,(k:Int))).1.kind≠0):
  Zk 133 #[M xb,.agg #[O b,O (k:Int)]] w λe w'=>Zr e (.tuple #[.pointer none,O 10])/\Zq w w':=by
 have p:=Y h;have i:=Y (λw2(a:Zq w w2)=>LW (h.quiet a) b hb k n hn hk);have j:=Y (λw2(a:Zq w w2)=>(h.quiet a).zP hn k hk);have l:Hid (∀w2,Zk 142 #[.agg #[O (Q (b,(k:Int))).1.kind,O (Q (b,(k:Int))).1.num,O (Q (b,(k:Int))).1.rights,J (Q (b,(k:Int))).1.bh,J (Q (b,(k:Int))).1.guard,O (Q (b,(k:Int))).1.aC,O (Q (b,(k:Int))).1.root,J (Q (b,(k:Int))).1.va,O (Q (b,(k:Int))).2.1,O (Q (b,(k:Int))).2.2]] w2 λe w'=>Zr e (.bool true)/\Zq w2 w'):=λw2=>by
  refine(IU (Q (b,(k:Int))) w2).m ?_;rintro e w' ⟨rfl,c⟩;exact⟨by simp[g],c⟩
 have d:Hid (∀o,Zq w (w.alloc o)):=λo=>(H.refl _ w).alloc o;go_enter func133,ntmps133;go_wp2_with fail;refine(i.j _ (d.j _)).m ?_;rintro e w2 ⟨rfl,c⟩;have f:=Y ((d.j _).trans c);have⟨c0,c1,c2,c3,c4,c5,c6,c7,c8,c9⟩:=j.j w2 f.j;go_wp2_with fail;refine(l.j _).m ?_;rintro e w3 ⟨rfl,m⟩;go_wp2_with fail;all_goals
  go_ret2;exact⟨rfl,(Y (f.j.trans m)).j⟩
theorem acN(h:dC U w xb mb D G bs Q)(s)(hb:af s.1)(b:Kh bs s):
  Zk 98 #[M xb,.agg #[O s.1,O s.2]] w λe w'=>Zr e (.tuple #[.pointer none,O 9])/\Zq w w':=by
 have c:=Y (λw2(a:Zq w w2)=>Vg (h.quiet a) s hb b)
 have d:Hid (∀o,Zq w (w.alloc o)):=λo=>(H.refl _ w).alloc o
 clear h b hb;obtain⟨s1,s2⟩:=s;dsimp only at c|-;go_enter func98,ntmps98;go_wp2_with fail;refine(c.j _ (d.j _)).m ?_;rintro e w2 ⟨rfl,a⟩;have f:Hid (Zq w w2):=(d.j _).trans a;clear a;go_wp2_with fail
 all_goals
  go_ret2;exact⟨rfl,f.j⟩
theorem acR(h:dC U w xb mb D G bs Q)(s)(hb:af s.1)(b:Kh bs s):
  Zk 133 #[M xb,.agg #[O s.1,O s.2]] w λe w'=>Zr e (.tuple #[.pointer none,O 9])/\Zq w w':=by
 have c:=Y (λw2(a:Zq w w2)=>Vg (h.quiet a) s hb b)
 have d:Hid (∀o,Zq w (w.alloc o)):=λo=>(H.refl _ w).alloc o
 clear h b hb;obtain⟨s1,s2⟩:=s;dsimp only at c|-;go_enter func133,ntmps133;go_wp2_with fail;refine(c.j _ (d.j _)).m ?_;rintro e w2 ⟨rfl,a⟩;have f:Hid (Zq w w2):=(d.j _).trans a;clear a;go_wp2_with fail
 all_goals
  go_ret2;exact⟨rfl,f.j⟩
end
def jo(U:Z1)(w:Z0)(xb:Nat)(bs:Lp)(es:List En):Prop:=∃mb D G,dC U w xb mb D G bs (bY es)/\Wf bs es/\Wx bs es/\es.length<=1000000
theorem aaI{s:Sl}(h:Kh bs s):gY bs es s=.error 9:=by
 unfold gY;cases hs:bq bs s.1 with
 |none=>rfl
 |some n=>
  dsimp only;rw[if_pos (h n hs)]
theorem ab1(es s):(∃i,jW es s=some i)\/(jW es s=none/\∀e∈es,e.at'≠s):=by
 cases he:jW es s with
 |some i=>exact Or.inl ⟨i,rfl⟩
 |none=>exact Or.inr ⟨rfl,λe hm a=>by have h1:=jQ he e hm;rw[a] at h1;simp at h1⟩
theorem NU{s:Sl}{n:Int}(h:bq bs s.1=some n)(a:0<=s.2)(h1:s.2<n):gY bs es s=match jW es s with|none=>.error 11|some i=>.ok i:=by
 unfold gY;rw[h];dsimp only;rw[if_neg Z];cases jW es s<;>rfl
theorem dC.full(h:dC U w xb mb D G bs (bY es))(hf:Wf bs es)(f:Wx bs es)(s)(hb:af s.1):
  (∃(k:Nat) (n:Int) (i:Nat),s.2=(k:Int)/\bq bs s.1=some n/\(k:Int)<n/\gY bs es s=.ok i/\(bY es s).1.kind≠0/\∀w2,Zq w w2->Zk 98 #[M xb,.agg #[O s.1,O (k:Int)]] w2 λe w'=>Zr e (.tuple #[.pointer (some ⟨G s.1,k*10,none⟩),O 0])/\Zq w2 w')\/
  (∃d:Int,gY bs es s=.error d/\d≠0/\∀w2,Zq w w2->Zk 98 #[M xb,.agg #[O s.1,O s.2]] w2 λe w'=>Zr e (.tuple #[.pointer none,O d])/\Zq w2 w'):=by
 have⟨s1,s2⟩:=s;dsimp only at hb|-;rcases Yx bs (s1,s2) with⟨k,n,hk,hn,b⟩|g
 ·dsimp only at hk hn;subst hk;have j:=NU (es:=es) (s:=(s1,(k:Int))) hn (by simp) b;rcases ab1 es (s1,(k:Int)) with⟨i,hi⟩|⟨hi,l⟩
  ·left;have⟨m,o⟩:=Gv hi;have c:(bY es (s1,(k:Int))).1.kind≠0:=λp=>(Mn f hf.once _).1 p _ (List.getElem_mem m) o;exact⟨k,n,i,rfl,hn,b,by rw[j,hi],c,λw2 a=>acP (h.quiet a) s1 hb k n hn b c⟩
  right;have c:=(Mn f hf.once _).2 l;exact⟨11,by rw[j,hi],I,λw2 a=>acO (h.quiet a) s1 hb k n hn b c⟩
 right;exact⟨9,aaI g,I,λw2 a=>acN (h.quiet a) (s1,s2) hb g⟩
theorem dC.empty(h:dC U w xb mb D G bs (bY es))(hf:Wf bs es)(f:Wx bs es)(s)(hb:af s.1):
  (∃(k:Nat) (n:Int),s.2=(k:Int)/\bq bs s.1=some n/\(k:Int)<n/\oQ bs es s=0/\(bY es s).1.kind=0/\∀w2,Zq w w2->Zk 133 #[M xb,.agg #[O s.1,O (k:Int)]] w2 λe w'=>Zr e (.tuple #[.pointer (some ⟨G s.1,k*10,none⟩),O 0])/\Zq w2 w')\/
  (∃d:Int,oQ bs es s=d/\d≠0/\∀w2,Zq w w2->Zk 133 #[M xb,.agg #[O s.1,O s.2]] w2 λe w'=>Zr e (.tuple #[.pointer none,O d])/\Zq w2 w'):=by
 have⟨s1,s2⟩:=s;dsimp only at hb|-;rcases Yx bs (s1,s2) with⟨k,n,hk,hn,b⟩|g
 ·dsimp only at hk hn;subst hk;have j:=NU (es:=es) (s:=(s1,(k:Int))) hn (by simp) b;rcases ab1 es (s1,(k:Int)) with⟨i,hi⟩|⟨hi,l⟩
  ·right;have⟨m,o⟩:=Gv hi;have c:(bY es (s1,(k:Int))).1.kind≠0:=λp=>(Mn f hf.once _).1 p _ (List.getElem_mem m) o;exact⟨10,by unfold oQ;rw[j,hi],I,λw2 a=>acS (h.quiet a) s1 hb k n hn b c⟩
  left;have c:=(Mn f hf.once _).2 l;exact⟨k,n,rfl,hn,b,by unfold oQ;rw[j,hi];rfl,c,λw2 a=>acT (h.quiet a) s1 hb k n hn b c⟩
 right;exact⟨9,by unfold oQ;rw[aaI g];rfl,I,λw2 a=>acR (h.quiet a) (s1,s2) hb g⟩
theorem UM(X:jo U w xb bs es)(s)(hb:af s.1):Zk 55 #[M xb,.agg #[O s.1,O s.2]] w λe w'=>Zr e (.tuple #[bz (aI bs es s).1,O (aI bs es s).2])/\Zq w w':=by
 obtain⟨mb,D,G,h,hf,z,B⟩:=X;have d:Hid (∀o p,Zq w ((w.alloc o).alloc p)):=λo p=>((H.refl _ w).alloc _).alloc _
 rcases h.full hf z s hb with⟨k,n,i,hk,hn,C,f,kx,j⟩|⟨x,f,F,j⟩
 ·obtain⟨hi,hE,hp⟩:=Qm hf f;have y:Hid (aI bs es s=((bY es s).1,0)):=by show aI bs es s=_;unfold aI;rw[f,hp];dsimp only;rw[getD_at es i hi]
  have K:Hid (∀w2,Zq w w2->CL w2 (G s.1) k (bY es s)):=λw2 ho=>by
   have:=(h.quiet ho).zP hn k C;rw[<-hk] at this;exact this
  have a:=Y j;obtain⟨s1,s2⟩:=s;dsimp only at hk;subst hk;clear h hf z B hn C f kx j hE hp hi hb;dsimp only at a|-;go_enter func55,ntmps55;go_wp2_with fail;refine(a.j _ (d.j _ _)).m ?_;rintro e w2 ⟨rfl,b⟩;have g:=(d.j (.cells #[O s1,O (k:Int)] 45) (.cells #[O 0,O 0,O 0,J 0,J 0,O 0,O 0,J 0] 84)).trans b;have l:=Mv b;have m:w.heap.size<=w.heap.size+1:=Z;have c:=Y (⟨g,m⟩:_/\_);obtain⟨⟨z0,q,z2,z3,z4,z5,r,t⟩,A⟩:=lQ l;obtain⟨N,P,Q,R,S,T,V,W,_,_⟩:=K.j w2 g;generalize (bY es (s1,(k:Int))).1=cp at N P Q R S T V W y;obtain⟨d0,d1,d2,d3,d4,d5,d6,d7⟩:=cp;dsimp only at N P Q R S T V W;obtain⟨rc,u⟩:=Ze (w.heap.size+1);rw[<-u] at z0 q z2 z3 z4 z5 r t A c|-;clear b l g d u m a K;go_wp2_with fail;refine bodyPost_ret (v:=.tuple #[bz ⟨d0,d1,d2,d3,d4,d5,d6,d7⟩,O 0]) ?_ rfl ⟨by rw[y.j],?_⟩
  ·simp[results,results55,go_sem,bz,z0,q,z2,z3,z4,z5,r,t]
  repeat' (first|refine H.setCell ?_ (Or.inr c.j.2) _|exact c.j.1)
 have y:Hid (aI bs es s=(lv,x)):=by show aI bs es s=_;unfold aI;rw[f]
 have As:(x==0)=false:=beq_eq_false_iff_ne.2 F;have Nw:(x !=0)=true:=by simp[bne,As]
 have a:=Y j;obtain⟨s1,s2⟩:=s;clear h hf z B f j hb F;dsimp only at a|-;go_enter func55,ntmps55;go_wp2_with fail;refine(a.j _ (d.j _ _)).m ?_;rintro e w2 ⟨rfl,b⟩;have g:=(d.j (.cells #[O s1,O s2] 45) (.cells #[O 0,O 0,O 0,J 0,J 0,O 0,O 0,J 0] 84)).trans b;have l:=Mv b;have m:w.heap.size<=w.heap.size+1:=Z;have c:=Y (⟨g,m⟩:_/\_);obtain⟨⟨z0,q,z2,z3,z4,z5,r,t⟩,A⟩:=lQ l;obtain⟨rc,u⟩:=Ze (w.heap.size+1);rw[<-u] at z0 q z2 z3 z4 z5 r t A c|-;clear b l g d u m a;go_wp2_with fail;refine bodyPost_ret (v:=.tuple #[bz lv,O x]) ?_ rfl ⟨by rw[y.j],?_⟩
 ·simp[results,results55,go_sem,bz,lv,z0,q,z2,z3,z4,z5,r,t]
 repeat' (first|refine H.setCell ?_ (Or.inr c.j.2) _|exact c.j.1)
theorem MA{j k:Nat}{c:Array Value}(h:w.heap[j]?=some (.cells c t fr))(a:w.ownsMap prog 3 RH k n Z4):j≠k:=by
 have⟨es,clock,hb,_⟩:=a;rintro rfl;rw[h] at hb;cases hb
section
variable {Q:Sl->Pl}
theorem dC.sep(h:dC U w xb mb D G bs Q){b:Int}(hb:(bq bs b).isSome=true):G b≠1/\G b≠xb/\G b≠mb/\∀c,(bq bs c).isSome=true->c≠b->G c≠G b:=by
 have⟨n,hn⟩:=Option.isSome_iff_exists.1 hb;have⟨cur,a⟩:=cW (h.bl b n hn) (k:=G b) rfl;exact⟨ef a h.ns I,ef a h.x I,MA a h.m,λc d f e=>f (h.gi c b d hb e)⟩
theorem dC.put(h:dC U w xb mb D G bs Q){b n:Int}(hn:bq bs b=some n)(k p)(hw:ax mI w3 0 236 (.slice (some ⟨G b,0,none⟩) n.toNat n.toNat) ((j7 Q b n.toNat).set k p))(a:H (λj=>j=G b) w w3):dC U w3 xb mb D G bs (yw Q (b,(k:Int)) p)/\H (λj=>¬U j) w w3:=by
 have hb:(bq bs b).isSome=true:=by rw[hn];rfl
 have⟨g0,g1,g2,g3⟩:=h.sep hb;have hm:w3.ownsMap prog 3 RH mb bs.length D:=by
  have⟨e,clock,hb,F,hs,g⟩:=h.m;exact⟨e,clock,(a.block mb h.m.lt (λe=>g2 e.symm)).trans hb,F,hs,g⟩
 refine⟨⟨(a.block _ (aB h.ns) (λe=>g0 e.symm))▸h.ns,(a.block xb (aB h.x) (λe=>g1 e.symm))▸h.x,hm,h.hs,h.ha,λc m hm=>?_,h.gi,h.un,h.ux,h.um,h.ug,λj d=>Nat.lt_of_lt_of_le (h.low j d) a.size,h.bn,h.nd,h.ib,h.nb⟩,a.mono (λj _ d=>by subst d;exact h.ug b hb)⟩;by_cases f:c=b
 ·subst f;rw[hn] at hm;injection hm with hm
  subst hm;rwa[agb]
 rw[age Q b c _ _ p f];refine(h.bl c m hm).kept a (λj d=>?_);have:G c=j:=by simpa[Value.ownBlock] using d
 rw[<-this];exact g3 c (by rw[hm];rfl) f
theorem dC.same{a:Sl->Pl}(h:dC U w xb mb D G bs Q)(b:∀s,Q s=a s):dC U w xb mb D G bs a:=by
 have:Q=a:=funext b;rwa[<-this]
theorem TA(h:dC U w xb mb D G bs Q){b n:Int}(hn:bq bs b=some n):∀j,w.frozen? ⟨G b,j,none⟩=false:=λj=>(h.bl b n hn).fz j
end
theorem aco(hc:jo U w xb bs es)(s)(hb:af s.1)(cp)(hg:ot cp):Zk 137 #[M xb,.agg #[.int .i64 s.1,.int .i64 s.2],.agg #[.int .i64 cp.kind,.int .i64 cp.num,.int .i64 cp.rights,.int .u32 cp.bh,.int .u32 cp.guard,.int .i64 cp.aC,.int .i64 cp.root,.int .u32 cp.va]] w λe w'=>Zr e (.int .i64 (wM bs es s cp))/\jo U w' xb bs (gO bs es s cp)/\Zn U w w':=by
 obtain⟨mb,D,G,h,hf,g,x⟩:=hc;have j:Hid (∀o p,Zq w ((w.alloc o).alloc p)):=λo p=>((H.refl _ w).alloc _).alloc _
 have B:=Y h;rcases h.full hf g s hb with⟨k,n,i,hk,hn,C,a,kx,r⟩|⟨F,a,S,r⟩
 ·obtain⟨hi,hE,hp⟩:=Qm hf a;have T:=Y (ahz hf a (c:=cp) hg);have V:=Y (⟨hf.set s cp hg,g.set s cp⟩:_/\_)
  have K:Hid ((gO bs es s cp).length=es.length):=by
   show(gO bs es s cp).length=es.length;unfold gO;rw[a];dsimp only
   split
   ·simp
   rfl
  have N:=Y x;have l:Hid (wM bs es s cp=if uc (bY es s).1 cp=true then 0 else 12):=by show wM bs es s cp=_;unfold wM;rw[a,hp];dsimp only;rw[getD_at es i hi]
  have P:Hid (uc (bY es s).1 cp=false->gO bs es s cp=es):=by
   intro b;unfold gO;rw[a];dsimp only;rw[hp] at b;rw[getD_at es i hi,b];rfl
  have W:Hid (uc (bY es s).1 cp=true->∀t,bY (gO bs es s cp) t=yw (bY es) s (cp,(bY es s).2) t):=by
   intro b t;refine T.j ?_ t;rw[getD_at es i hi];rw[hp] at b;exact b
  have X:Hid (∀w2,Zq w w2->CL w2 (G s.1) k (bY es s)):=λw2 Q=>by
   have:=(h.quiet Q).zP hn k C;rw[<-hk] at this;exact this
  have u:=Y (⟨hn,C⟩:_/\_);have f:=Y r;have y:=Y (⟨hf,g⟩:_/\_);obtain⟨s1,s2⟩:=s;dsimp only at hk;subst hk;clear h hf g x hn C a kx r hE hp hi hb T hg;obtain⟨d0,d1,d2,d3,d4,d5,d6,d7⟩:=cp;dsimp only at f|-;go_enter func137,ntmps137;go_wp2_with fail;refine(f.j _ (j.j _ _)).m ?_;rintro e w2 ⟨rfl,m⟩;have z:=(j.j (.cells #[.int .i64 s1,.int .i64 (k:Int)] 45) (.cells #[.int .i64 d0,.int .i64 d1,.int .i64 d2,.int .u32 d3,.int .u32 d4,.int .i64 d5,.int .i64 d6,.int .u32 d7] 84)).trans m;have A:=Mv m;have q:=Y z;obtain⟨⟨z0,z1,z2,z3,z4,z5,z6,z7⟩,zf⟩:=lQ A;obtain⟨k0,k1,k2,k3,k4,k5,k6,k7,_,_⟩:=X.j w2 z;have v:=Y (B.j.quiet z);have HB:=Y (v.j.bl s1 n u.j.1);have gf:=TA v.j u.j.1;obtain⟨rc,aR⟩:=Ze (w.heap.size+1);rw[<-aR] at z0 z1 z2 z3 z4 z5 z6 z7 zf A|-;have HZ:=Y A;clear m z j aR f X B A;generalize iL:(bY es (s1,(k:Int))).1=cq at k0 k1 k2 k3 k4 k5 k6 k7 l P W;obtain⟨f0,f1,f2,f3,f4,f5,f6,f7⟩:=cq;dsimp only at k0 k1 k2 k3 k4 k5 k6 k7;by_cases b:d0=f0
  ·subst b;by_cases h1:d1=f1
   ·subst h1;have d:Hid (uc ⟨d0,d1,f2,f3,f4,f5,f6,f7⟩ ⟨d0,d1,d2,d3,d4,d5,d6,d7⟩=true):=decide_eq_true ⟨rfl,rfl⟩;go_wp2_with fail;go_quiet (fail)
    go_wp2
    go_ret;have H3:=v.j.quiet ((H.refl _ w2).drewN nq);have fc:k<(j7 (bY es) s1 n.toNat).length:=by rw[Bh];have:=u.j.2;omega
    obtain⟨hw,Q⟩:=aht (H3.bl s1 n u.j.1) (Bh _ _ _).symm k fc ⟨d0,d1,d2,d3,d4,d5,d6,d7⟩;rw[Ih] at hw;obtain⟨h4,h5⟩:=H3.put u.j.1 k _ hw Q;exact⟨by rw[l.j,d.j];rfl,⟨mb,D,G,h4.same (λt=>(W.j d.j t).symm),V.j.1,V.j.2,by rw[K.j];exact N.j⟩,(q.j.f).trans (((H.refl _ w2).drewN nq).trans h5)⟩
   have d:Hid (uc ⟨d0,f1,f2,f3,f4,f5,f6,f7⟩ ⟨d0,d1,d2,d3,d4,d5,d6,d7⟩=false):=decide_eq_false (λh=>h1 h.2.symm);have R:(d1==f1)=false:=beq_eq_false_iff_ne.2 h1;go_wp2_with fail;go_quiet (fail);go_wp2_with fail
   all_goals
    go_ret;exact⟨by rw[l.j,d.j];rfl,by rw[P.j d.j];exact⟨mb,D,G,v.j.quiet (by repeat' (first|exact H.refl _ _|refine H.drewN ?_ _|refine H.drew ?_)),y.j.1,y.j.2,N.j⟩,(q.j.f).trans (by repeat' (first|exact H.refl _ _|refine H.drewN ?_ _|refine H.drew ?_))⟩
  have d:Hid (uc ⟨f0,f1,f2,f3,f4,f5,f6,f7⟩ ⟨d0,d1,d2,d3,d4,d5,d6,d7⟩=false):=decide_eq_false (λh=>b h.1.symm);have R:(d0==f0)=false:=beq_eq_false_iff_ne.2 b;go_wp2_with fail;go_quiet (fail);go_wp2_with fail
  all_goals
   go_ret;exact⟨by rw[l.j,d.j];rfl,by rw[P.j d.j];exact⟨mb,D,G,v.j.quiet (by repeat' (first|exact H.refl _ _|refine H.drewN ?_ _|refine H.drew ?_)),y.j.1,y.j.2,N.j⟩,(q.j.f).trans (by repeat' (first|exact H.refl _ _|refine H.drewN ?_ _|refine H.drew ?_))⟩
 have l:Hid (wM bs es s cp=F):=by show wM bs es s cp=_;unfold wM;rw[a]
 have HR:Hid (∀w2,Zq w w2->jo U w2 xb bs (gO bs es s cp)):=λw2 R=>by
  have:gO bs es s cp=es:=by unfold gO;rw[a]
  rw[this];exact⟨mb,D,G,h.quiet R,hf,g,x⟩
 have As:(F==0)=false:=beq_eq_false_iff_ne.2 S;have Nw:(F !=0)=true:=by simp[bne,As]
 have f:=Y r;obtain⟨s1,s2⟩:=s;clear h hf g x a r hb S B hg;obtain⟨d0,d1,d2,d3,d4,d5,d6,d7⟩:=cp;dsimp only at f|-;go_enter func137,ntmps137;go_wp2_with fail;refine(f.j _ (j.j _ _)).m ?_;rintro e w2 ⟨rfl,m⟩;have q:=Y ((j.j (.cells #[.int .i64 s1,.int .i64 s2] 45) (.cells #[.int .i64 d0,.int .i64 d1,.int .i64 d2,.int .u32 d3,.int .u32 d4,.int .i64 d5,.int .i64 d6,.int .u32 d7] 84)).trans m);clear m j f;go_wp2_with fail
 all_goals
  go_ret;exact⟨by rw[l.j];try rfl,HR.j _ q.j,q.j.f⟩
theorem QH{a b c:Obj}(h:Zq (((w.alloc a).alloc b).alloc c) w2):w2.heap[w.heap.size]?=some a/\w2.heap[w.heap.size+1]?=some b/\w2.heap[w.heap.size+1+1]?=some c:=by
 have d:(((w.alloc a).alloc b).alloc c).heap[w.heap.size+1+1]?=some c:=by
  have:=heap_alloc_last ((w.alloc a).alloc b) c;simpa using this
 have e:(((w.alloc a).alloc b).alloc c).heap[w.heap.size+1]?=some b:=by
  have h1:=heap_alloc_last (w.alloc a) b;rw[RowKit.Below.heap_alloc _ _ _ (by simp)];simpa using h1
 have h1:(((w.alloc a).alloc b).alloc c).heap[w.heap.size]?=some a:=by
  rw[RowKit.Below.heap_alloc _ _ _ (by simp;omega),RowKit.Below.heap_alloc _ _ _ (by simp)];exact heap_alloc_last w a
 exact⟨(h.block _ (aB h1) id).trans h1,(h.block _ (aB e) id).trans e,(h.block _ (aB d) id).trans d⟩
theorem ah0{f:Sl}{c:Cp}(hk:¬(c.kind<1\/10<c.kind))(he:oQ bs es a≠0):fU bs es a c f=oQ bs es a:=by unfold fU;rw[if_neg hk,if_neg he]
theorem agX{f:Sl}{c:Cp}(hk:¬(c.kind<1\/10<c.kind))(he:oQ bs es a=0)(hf:f.1= -1):fU bs es a c f=0:=by unfold fU;rw[if_neg hk,if_pos he,if_pos hf]
theorem Wy{f:Sl}{c:Cp}(hk:¬(c.kind<1\/10<c.kind))(he:oQ bs es a=0)(hf:f.1≠ -1):fU bs es a c f=aaJ (gY bs es f):=by unfold fU;rw[if_neg hk,if_pos he,if_neg hf]
theorem agZ{f:Sl}{c:Cp}(h:fU bs es a c f≠0):iQ bs es a c f=es:=by unfold iQ;rw[if_neg h]
theorem alv(es x):(BH es x).length=es.length+1:=alx es x _
theorem agY(a f c):(iQ bs es a c f).length<=es.length+1:=by
 unfold iQ;split
 ·rw[alv];exact Nat.le_refl _
 omega
theorem acw(hc:jo U w xb bs es)(a c f)(ha:af a.1)(X:af f.1)(iK:af c.num)(hg:ot c)(hlen:es.length<1000000):Zk 90 #[M xb,.agg #[O a.1,O a.2],.agg #[O c.kind,O c.num,O c.rights,J c.bh,J c.guard,O c.aC,O c.root,J c.va],.agg #[O f.1,O f.2]] w λe w'=>Zr e (O (fU bs es a c f))/\jo U w' xb bs (iQ bs es a c f)/\Zn U w w':=by
 obtain⟨mb,D,G,h,hf,v,hl⟩:=hc;have d:Hid (∀o p q,Zq w (((w.alloc o).alloc p).alloc q)):=λo p q=>(((H.refl _ w).alloc _).alloc _).alloc _
 have N:=Y h
 have A:Hid (fU bs es a c f≠0->∀w2,Zq w w2->jo U w2 xb bs (iQ bs es a c f)):=λhp w2 h2=>by
  rw[agZ hp];exact⟨mb,D,G,h.quiet h2,hf,v,hl⟩
 by_cases hk:c.kind<1\/10<c.kind
 ·have g:Hid (fU bs es a c f=12):=by show fU bs es a c f=12;unfold fU;rw[if_pos hk]
  clear h hf v hl N X ha iK hg hlen;obtain⟨a1,a2⟩:=a;obtain⟨f1,f2⟩:=f;obtain⟨d0,d1,d2,d3,d4,d5,d6,d7⟩:=c;dsimp only at hk|-;by_cases h1:d0<1
  ·clear hk;go_enter func90,ntmps90;go_wp2_with fail
   all_goals
    go_ret;exact⟨by rw[g.j];try rfl,A.j (by rw[g.j];decide) _ (d.j _ _ _),(d.j _ _ _).f⟩
  have h2:10<d0:=Z;clear hk;go_enter func90,ntmps90;go_wp2_with fail
  all_goals
   go_ret;exact⟨by rw[g.j];try rfl,A.j (by rw[g.j];decide) _ (d.j _ _ _),(d.j _ _ _).f⟩
 rcases h.empty hf v a ha with⟨k,n,P,hn,al,s,kx,B⟩|⟨x,s,C,B⟩
 ·have Sd:=λ(f2:Sl)=>Bo (Tf s).2
  have l:=Y (⟨hn,al⟩:_/\_);have k1:¬c.kind<1:=Z;have k2:¬10<c.kind:=Z
  have Q:Hid (fU bs es a c f=0->∀w3 w4,dC U w3 xb mb D G bs (bY es)->H (λj=>¬U j) w w3->ax mI w4 0 236 (.slice (some ⟨G a.1,0,none⟩) n.toNat n.toNat) ((j7 (bY es) a.1 n.toNat).set k (c,uI f))->H (λj=>j=G a.1) w3 w4->jo U w4 xb bs (iQ bs es a c f)/\H (λj=>¬U j) w w4):=λhp w3 w4 hX hO hw ho=>by
   obtain⟨h4,h5⟩:=hX.put hn k (c,uI f) hw ho;refine⟨⟨mb,D,G,h4.same (λt=>?_),hf.put a c f hg,v.put a c f iK,Nat.le_trans (agY a f c) hlen⟩,hO.trans h5⟩;rw[ahA hf v hg hp];unfold yw;have:(a.1,(k:Int))=a:=Prod.ext rfl P.symm;rw[this]
  by_cases hm:f.1= -1
  ·have g:Hid (fU bs es a c f=0):=agX hk s hm;have Uu:Hid (uI f=(-1, -1)):=by show uI f=_;unfold uI;rw[if_pos hm]
   have m:=Y B;clear h hf v hl X ha iK hg hlen A s B hk Sd kx hn al;obtain⟨a1,a2⟩:=a;obtain⟨f1,f2⟩:=f;dsimp only at hm P;subst hm;subst P;obtain⟨d0,d1,d2,d3,d4,d5,d6,d7⟩:=c;dsimp only at k1 k2 m l Q|-;go_enter func90,ntmps90;go_wp2_with fail;refine(m.j _ (d.j _ _ _)).m ?_;rintro e w2 ⟨rfl,b⟩;have y:=(d.j (.cells #[O a1,O (k:Int)] 45) (.cells #[O d0,O d1,O d2,J d3,J d4,O d5,O d6,J d7] 84) (.cells #[O (-1),O f2] 45)).trans b;obtain⟨_,z,hy⟩:=QH b;have H2:=Y (N.j.quiet y);obtain⟨⟨z0,z1,z2,z3,z4,z5,z6,z7⟩,zf⟩:=lQ z;obtain⟨⟨R,S⟩,T⟩:=vz hy;obtain⟨⟨n0,n1⟩,_⟩:=vz H2.j.ns;obtain⟨q0,q1,q2,q3,q4,q5,q6,q7,q8,q9⟩:=H2.j.zP l.j.1 k l.j.2;have gf:=TA H2.j l.j.1
   have ZV:G a1≠w.heap.size+1+1:=by
    have:=N.j.JO (k:=a1) (by rw[l.j.1];rfl);omega
   have Jg:w.heap.size+1≠w.heap.size+1+1:=Z;have RS:w.heap.size+1+1≠w.heap.size+1:=Z;obtain⟨rc,F⟩:=Ze (w.heap.size+1);obtain⟨u,K⟩:=Ze (w.heap.size+1+1);have KQ:Hid (w.heap.size<=u):=by show w.heap.size<=u;omega
   have r:=Y y;rw[<-K,<-F] at Jg RS;rw[<-K] at ZV R S T hy;rw[<-F] at z0 z1 z2 z3 z4 z5 z6 z7 zf;rw[<-K,<-F];have ad:u≠G a1:=λe=>ZV e.symm
   have ab:1≠u:=by
    have:=aB N.j.ns;have:=KQ.j;omega
   have ae:u≠1:=λe=>ab e.symm
   clear b z hy y d F K m;go_wp2_with fail;have fc:k<(j7 (bY es) a1 n.toNat).length:=by rw[Bh];have:=l.j.2;omega
   have aA:Zq w ((w2.setCell (E u 0) (O (-1))).setCell (E u 1) (O (-1))):=H.beyond r.j (QB w2 u _ _) (λj hj=>by subst hj;exact KQ.j);have V:=N.j.quiet aA;obtain⟨hw,ho⟩:=WJ (V.bl a1 n l.j.1) (Bh _ _ _).symm k fc ((⟨d0,d1,d2,d3,d4,d5,d6,d7⟩,(-1, -1)):Pl);rw[Uu.j] at Q;go_ret;exact⟨by rw[g.j];try rfl,Q.j g.j _ _ V (aA.f) hw ho⟩
  have Uu:Hid (uI f=f):=by show uI f=_;unfold uI;rw[if_neg hm]
  have aS:(f.1== -1)=false:=beq_eq_false_iff_ne.2 hm;have m:=Y B;rcases h.full hf v f X with⟨kf,nf,i,aa,_,_,yZ,_,Gg⟩|⟨x,yZ,C,Gg⟩
  ·have g:Hid (fU bs es a c f=0):=by show fU bs es a c f=0;rw[Wy hk s hm,yZ];rfl
   rw[<-aa] at Gg;have W:=Y Gg;clear h hf v hl X ha iK hg hlen A s B hk Sd kx hn al hm yZ aa Gg;obtain⟨a1,a2⟩:=a;obtain⟨f1,f2⟩:=f;dsimp only at P aS;subst P;obtain⟨d0,d1,d2,d3,d4,d5,d6,d7⟩:=c;dsimp only at k1 k2 m W l Q|-;go_enter func90,ntmps90;go_wp2_with fail;refine(m.j _ (d.j _ _ _)).m ?_;rintro e w2 ⟨rfl,b⟩;have y:=(d.j (.cells #[O a1,O (k:Int)] 45) (.cells #[O d0,O d1,O d2,J d3,J d4,O d5,O d6,J d7] 84) (.cells #[O f1,O f2] 45)).trans b;obtain⟨_,z,hy⟩:=QH b;obtain⟨⟨R,S⟩,T⟩:=vz hy;obtain⟨rc,F⟩:=Ze (w.heap.size+1);obtain⟨u,K⟩:=Ze (w.heap.size+1+1);have r:=Y y;rw[<-K] at R S T hy;rw[<-F] at z;rw[<-K,<-F];have Ks:=Y (⟨z,hy⟩:_/\_);clear b y d F K m z hy;go_wp2_with fail;refine(W.j _ r.j).m ?_;rintro e w3 ⟨rfl,b⟩;have Gl:=r.j.trans b;have z:w3.heap[rc]?=_:=(b.block rc (aB Ks.j.1) id).trans Ks.j.1;have hy:w3.heap[u]?=_:=(b.block u (aB Ks.j.2) id).trans Ks.j.2;clear R S T;obtain⟨⟨z0,z1,z2,z3,z4,z5,z6,z7⟩,zf⟩:=lQ z;obtain⟨⟨R,S⟩,T⟩:=vz hy;have V:=Y (N.j.quiet Gl);have kZ:=Y Gl;obtain⟨q0,q1,q2,q3,q4,q5,q6,q7,q8,q9⟩:=V.j.zP l.j.1 k l.j.2;have gf:=TA V.j l.j.1;clear b Gl W z hy Ks r;go_wp2_with fail;have fc:k<(j7 (bY es) a1 n.toNat).length:=by rw[Bh];have:=l.j.2;omega
   obtain⟨hw,ho⟩:=WJ (V.j.bl a1 n l.j.1) (Bh _ _ _).symm k fc ((⟨d0,d1,d2,d3,d4,d5,d6,d7⟩,(f1,f2)):Pl);rw[Uu.j] at Q;go_ret;exact⟨by rw[g.j];try rfl,Q.j g.j _ _ V.j (kZ.j.f) hw ho⟩
  have g:Hid (fU bs es a c f=x):=by show fU bs es a c f=x;rw[Wy hk s hm,yZ];rfl
  have As:(x==0)=false:=beq_eq_false_iff_ne.2 C;have Nw:(x !=0)=true:=by simp[bne,As]
  have pX:Hid (∀w2,Zq w w2->jo U w2 xb bs (iQ bs es a c f)):=A.j (by rw[g.j];exact C);have W:=Y Gg;clear h hf v hl X ha iK hg hlen A s B hk Sd kx hn al hm yZ Gg C Q;obtain⟨a1,a2⟩:=a;obtain⟨f1,f2⟩:=f;dsimp only at P aS;subst P;obtain⟨d0,d1,d2,d3,d4,d5,d6,d7⟩:=c;dsimp only at k1 k2 m W l|-;go_enter func90,ntmps90;go_wp2_with fail;refine(m.j _ (d.j _ _ _)).m ?_;rintro e w2 ⟨rfl,b⟩;have y:=(d.j (.cells #[O a1,O (k:Int)] 45) (.cells #[O d0,O d1,O d2,J d3,J d4,O d5,O d6,J d7] 84) (.cells #[O f1,O f2] 45)).trans b;obtain⟨_,_,hy⟩:=QH b;obtain⟨⟨R,S⟩,T⟩:=vz hy;have r:=Y y;clear b y d m hy;go_wp2_with fail;refine(W.j _ r.j).m ?_;rintro e w3 ⟨rfl,b⟩;have kZ:=Y (r.j.trans b);clear b W r R S T;go_wp2_with fail
  all_goals
   go_ret;exact⟨by rw[g.j];try rfl,pX.j _ kZ.j,kZ.j.f⟩
 have g:Hid (fU bs es a c f=x):=by show fU bs es a c f=x;rw[ah0 hk (by rw[s];exact C),s]
 have As:(x==0)=false:=beq_eq_false_iff_ne.2 C;have Nw:(x !=0)=true:=by simp[bne,As]
 have pX:Hid (∀w2,Zq w w2->jo U w2 xb bs (iQ bs es a c f)):=A.j (by rw[g.j];exact C);have m:=Y B;have k1:¬c.kind<1:=Z;have k2:¬10<c.kind:=Z;clear h hf v hl N X ha iK hg hlen A s C B hk;obtain⟨a1,a2⟩:=a;obtain⟨f1,f2⟩:=f;obtain⟨d0,d1,d2,d3,d4,d5,d6,d7⟩:=c;dsimp only at k1 k2 m|-;go_enter func90,ntmps90;go_wp2_with fail;refine(m.j _ (d.j _ _ _)).m ?_;rintro e w2 ⟨rfl,b⟩;have r:=Y ((d.j (.cells #[O a1,O a2] 45) (.cells #[O d0,O d1,O d2,J d3,J d4,O d5,O d6,J d7] 84) (.cells #[O f1,O f2] 45)).trans b);clear b d m;go_wp2_with fail
 all_goals
  go_ret;exact⟨by rw[g.j];try rfl,pX.j _ r.j,r.j.f⟩
theorem PU(hn:(bs.map (·.1)).Nodup)(k m:Int):bq bs k=some m↔(k,m)∈bs:=
 ⟨Ma,λh=>(FK hn h).1⟩
theorem afu{num n:Int}(hn:((bs++[(num,n)]).map (·.1)).Nodup)(k:Int):bq (bs++[(num,n)]) k=if k=num then some n else bq bs k:=by
 by_cases hk:k=num
 ·rw[if_pos hk,hk];exact(PU hn num n).2 (by simp)
 rw[if_neg hk];apply Option.ext;intro m;rw[PU hn,PU (List.Nodup.sublist (List.Sublist.map _ (List.sublist_append_left _ _)) hn),List.mem_append];constructor
 ·rintro(h|h)
  ·exact h
  simp only[List.mem_cons,Prod.mk.injEq,List.not_mem_nil,or_false] at h;exact absurd h.1 hk
 exact Or.inl
def pe(n:Nat):List Pl:=j7 (λ_=>Dg) 0 n
theorem ahs:(prog.info? 236).map (λi=>(i.zero,i.size,i.bytes))=some (some (.agg #[.int .i64 0,.int .i64 0,.int .i64 0,.int .u32 0,.int .u32 0,.int .i64 0,.int .i64 0,.int .u32 0,.int .i64 0,.int .i64 0]),10,72):=Zx
theorem Hi(n):(pe n).length=n:=Bh _ _ _
theorem ac8(n k)(hk:k<(pe n).length):(pe n)[k]=Dg:=Ih _ _ _ _ hk
theorem ajL(n):madeCells #[.int .i64 0,.int .i64 0,.int .i64 0,.int .u32 0,.int .u32 0,.int .i64 0,.int .i64 0,.int .u32 0,.int .i64 0,.int .i64 0] (n*10)=(fl mI (pe n)).toArray:=by
 have⟨c,a⟩:=Ze (#[.int .i64 0,.int .i64 0,.int .i64 0,.int .u32 0,.int .u32 0,.int .i64 0,.int .i64 0,.int .u32 0,.int .i64 0,.int .i64 0]:Array Value);rw[<-a];have hs:c.size=10:=by rw[a];rfl
 apply Array.ext';apply List.ext_getElem?;intro j;have f:(fl mI (pe n)).length=n*10:=by rw[uv,Hi];rfl
 by_cases d:j<n*10
 ·have h1:j/10<(pe n).length:=by rw[Hi];omega
  have b:=Gs mI (pe n) (j/10) (j % 10) h1 (Nat.mod_lt _ I);have e:j/10*mI.sz+j % 10=j:=by show j/10*10+j % 10=j;omega
  rw[e,ac8] at b;rw[List.toList_toArray,b];simp only[madeCells,Array.toList_map,Array.toList_range,List.getElem?_map,List.getElem?_range d,Option.map_some,hs];have hm:j % 10=0\/j % 10=1\/j % 10=2\/j % 10=3\/j % 10=4\/j % 10=5\/j % 10=6\/j % 10=7\/j % 10=8\/j % 10=9:=Z;rcases hm with h|h|h|h|h|h|h|h|h|h<;>rw[h,a]<;>rfl
 rw[List.getElem?_eq_none (by simp[madeCells];omega),List.toList_toArray,List.getElem?_eq_none Z]
theorem ajH(n:Nat)(h:n<=1000)(w):(Instr.makeSlice 335 (.int .i64 (n:Int)) (.int .i64 (n:Int))).run prog w=.ok (Zs w.heap.size n n) (w.alloc (.cells (fl mI (pe n)).toArray 236)):=by
 have hi:=ahs;cases a:prog.info? 236 with
 |none=>rw[a] at hi;simp at hi
 |some i=>
  rw[a] at hi;simp only[Option.map_some,Option.some.injEq,Prod.mk.injEq] at hi;have:=run_make (P:=prog) w 335 236 i _ underlying335 a hi.1 .i64 .i64 n n Z Z (by rw[hi.2.2];omega) Z;rw[this,hi.2.1];simp only[Int.toNat_natCast,Value.cells];rw[ajL]
theorem apr:∀m:Nat,m<65->1<=m->(bits BinOp.and IntKind.i64 (m:Int) ((m:Int) - 1) !=0)= !iO (m:Int):=I
theorem ahB(a:Wx bs es){num:Int}(hn:bq bs num=none)(i):bY es (num,i)=Dg:=by
 refine Bo λe he c=>?_;have⟨b,hb,h1,_⟩:=a.ix e he;have:=(FK a.nd hb).1;rw[h1,c] at this;simp only at this;rw[hn] at this;cases this
theorem Ye(k)(hk:af k):WideAt.IsKeyLit (.int .i64 k):=IL.key (MH hk)
section
variable {Q:Sl->Pl}
theorem dC.made(h:dC U w xb mb D G bs Q){num:Int}{m g:Nat}(r:af num)(C:bq bs num=none)(h1:1<=m)(F:m<=64)(A:∀i,Q (num,i)=Dg)(v:((bs++[(num,(m:Int))]).map (·.1)).Nodup)(hlen:bs.length<1000000)(s:Zq w w4)(hg:w.heap.size<=g)(hr:ax mI w4 0 236 (Zs g m m) (pe m))(hm:w3.ownsMap prog 3 RH mb (bs.length+1) (D.put (.int .i64 num) (.held (Zs g m m))))(p:w4.grownBy w3 (some mb)):
  dC U w3 xb mb (D.put (.int .i64 num) (.held (Zs g m m))) (λk=>if k=num then g else G k) (bs++[(num,(m:Int))]) Q/\H (λj=>¬U j) w w3:=by
 have f:=h.quiet s;have l:H (λj=>j=mb) w4 w3:=⟨p.os,p.tape,p.output,p.size,λk hk hn=>p.block k hk (λe=>hn (by injection e))⟩;have x:=h.m.isMap;have o:=afu v;have t:=λk n(hk:bq bs k=some n)=>(f.sep (b:=k) (by rw[hk];rfl)).2.2.1;have K:g≠mb:=by
  have⟨cur,B⟩:=cW hr (k:=g) rfl;exact MA B f.m
 have q:∀k n,bq bs k=some n->G k≠g:=λk n hk e=>by
  have:=h.JO (k:=k) (by rw[hk];rfl);omega
 have y:∀k,k≠num->(Lit.int .i64 k)≠(Lit.int .i64 num):=λk hk e=>hk (by injection e);refine⟨⟨?_,?_,List.length_append▸hm,λk hk=>?_,λk n z hk=>?_,λk n hk=>?_,λj k c hk e=>?_,h.un,h.ux,h.um,λk hk=>?_,λj c=>Nat.lt_of_lt_of_le (h.low j c) (Nat.le_trans s.size l.size),λk n hk=>?_,v,λb hb=>?_,List.length_append▸hlen⟩,?_⟩
 ·rw[l.block _ (aB f.ns) (λe=>MA f.ns f.m e)];exact f.ns
 ·rw[l.block _ (aB f.x) (λe=>MA f.x f.m e)];exact f.x
 ·rw[o k];by_cases a:k=num
  ·rw[if_pos a,a];exact Maps.has_put_same x (Ye num r) _
  rw[if_neg a,Maps.has_put_other (y k a)];exact h.hs k hk
 ·rw[o k] at hk;by_cases a:k=num
  ·rw[if_pos a] at hk;injection hk with hk
   subst hk;rw[if_pos a,a];exact Maps.atKey_put_same x (Ye num r) _ z
  rw[if_neg a] at hk;rw[if_neg a,Maps.atKey_put_other (y k a)];exact h.ha k n z hk
 ·rw[o k] at hk;by_cases a:k=num
  ·rw[if_pos a] at hk;injection hk with hk
   subst hk;rw[if_pos a,a];have e:j7 Q num (m:Int).toNat=pe m:=by
    rw[Int.toNat_natCast];unfold pe j7;simp only[A]
   rw[e];refine hr.kept l (λj c=>?_);have:g=j:=by simpa[Value.ownBlock] using c
   rwa[<-this]
  rw[if_neg a] at hk;rw[if_neg a];refine(f.bl k n hk).kept l (λj c=>?_);have:G k=j:=by simpa[Value.ownBlock] using c
  rw[<-this];exact t k n hk
 ·rw[o] at c hk;try dsimp only at e
  by_cases u:j=num
  ·by_cases d:k=num
   ·rw[u,d]
   rw[if_pos u,if_neg d] at e;rw[if_neg d] at hk;have⟨n,hn⟩:=Option.isSome_iff_exists.1 hk;exact absurd e.symm (q k n hn)
  rw[if_neg u] at c e;have⟨n,hn⟩:=Option.isSome_iff_exists.1 c;by_cases d:k=num
  ·rw[if_pos d] at e;exact absurd e (q j n hn)
  rw[if_neg d] at e hk;exact h.gi j k c hk e
 ·rw[o] at hk;try dsimp only
  by_cases d:k=num
  ·rw[if_pos d];intro hu;have:=h.low g hu;omega
  rw[if_neg d] at hk|-;exact h.ug k hk
 ·rw[o] at hk;by_cases d:k=num
  ·rw[if_pos d] at hk;injection hk with hk
   omega
  rw[if_neg d] at hk;exact h.bn k n hk
 ·rcases List.mem_append.1 hb with hb|hb
  ·exact h.ib b hb
  simp only[List.mem_cons,List.not_mem_nil,or_false] at hb;subst hb;exact r
 exact(s.f).trans (l.mono (λj _ c=>by subst c;exact h.um))
end
theorem MB{num n:Int}(h:num<0\/iO n=false):mM bs num n=1:=if_pos h
theorem ajJ{num n:Int}(h:mM bs num n≠0):kL bs num n=bs:=by unfold kL;rw[if_neg h]
theorem acH(f:jo U w xb bs es)(num n)(g:af num)(hlen:bs.length<1000000):Zk 125 #[M xb,.int .i64 num,.int .i64 n] w λe w'=>Zr e (.int .i64 (mM bs num n))/\jo U w' xb (kL bs num n) es/\Zn U w w':=by
 have k:Hid (mM bs num n≠0->jo U w xb (kL bs num n) es):=λhp=>by rw[ajJ hp];exact f
 by_cases h1:num<0
 ·have a:Hid (mM bs num n=1):=MB (Or.inl h1);go_enter func125,ntmps125;go_wp2_with fail;all_goals
   go_ret;exact⟨by rw[a.j];try rfl,k.j (by rw[a.j];decide),H.refl _ _⟩
 by_cases T:n<1
 ·have a:Hid (mM bs num n=1):=MB (Or.inr (decide_eq_false Z));go_enter func125,ntmps125;go_wp2_with fail
  all_goals
   go_ret;exact⟨by rw[a.j];try rfl,k.j (by rw[a.j];decide),H.refl _ _⟩
 by_cases V:64<n
 ·have a:Hid (mM bs num n=1):=MB (Or.inr (decide_eq_false Z));clear f;go_enter func125,ntmps125;go_wp2_with fail
  all_goals
   go_ret;exact⟨by rw[a.j];try rfl,k.j (by rw[a.j];decide),H.refl _ _⟩
 obtain⟨m,rfl⟩:∃m:Nat,n=(m:Int):=⟨n.toNat,Z⟩
 have b:=apr m Z Z;have W:=Zh ((m:Int) - 1) Z
 cases ht:iO (m:Int) with
 |false=>
  have a:Hid (mM bs num m=1):=MB (Or.inr ht);rw[ht] at b;have A:(bits BinOp.and IntKind.i64 (m:Int) ((m:Int) - 1) !=0)=true:=b;clear f ht b;go_enter func125,ntmps125;go_wp2_with fail
  all_goals
   go_ret
   exact⟨by rw[a.j];try rfl,k.j (by rw[a.j];decide),H.refl _ _⟩
 |true=>
  rw[ht] at b;have A:(bits BinOp.and IntKind.i64 (m:Int) ((m:Int) - 1) !=0)=false:=b;have X:=Y f;obtain⟨mb,D,G,h,hf,l,r⟩:=f;have c0:=h.c0;have c:=(h.look num g).2;have B:=ajH m Z
  cases hs:bq bs num with
  |some q=>
   have a:Hid (mM bs num m=7):=by
    show mM bs num m=7;unfold mM;rw[if_neg (by rw[ht];simp;omega)]
    cases hb:tH bs num with
    |none=>rw[Mb hb] at hs;cases hs
    |some i=>rfl
   rw[IH hs,hs] at c;have C:(Instr.lookup 213 (.map (some mb)) (.int .i64 num) true).run prog w=.ok (.tuple #[.slice (some ⟨G num,0,none⟩) q.toNat q.toNat,.bool true]) w:=c;clear ht b h hf l r c hs B;go_enter func125,ntmps125;go_wp2_with fail
   all_goals
    go_ret
    exact⟨by rw[a.j];try rfl,k.j (by rw[a.j];decide),H.refl _ _⟩
  |none=>
   have u:tH bs num=none:=by
    cases hb:tH bs num with
    |none=>rfl
    |some i=>
     obtain⟨_,_,o⟩:=J5 hb;rw[hs] at o;cases o
   have a:Hid (mM bs num m=0):=by
    show mM bs num m=0;unfold mM;rw[if_neg (by rw[ht];simp;omega),u]
   have v:Hid (kL bs num m=bs++[(num,(m:Int))]):=by show kL bs num m=_;unfold kL;rw[a.j];rfl
   have p:=l.make num m g;have s:=hf.make num m;rw[v.j] at p s;have FV:xb<w.heap.size:=aB h.x
   have F:Hid (∀w3,w3.ownsMap prog 3 RH mb (bs.length+1) (D.put (.int .i64 num) (.held (Zs w.heap.size m m)))->(w.alloc (.cells (fl mI (pe m)).toArray 236)).drew.grownBy w3 (some mb)->jo U w3 xb (bs++[(num,(m:Int))]) es/\H (λj=>¬U j) w w3):=λw3 hm K=>by
    have N:(w.alloc (.cells (fl mI (pe m)).toArray 236)).drew.heap[w.heap.size]?=some (.cells (fl mI (pe m)).toArray 236 (0,0)):=heap_alloc_last w _
    have hr:ax mI ((w.alloc (.cells (fl mI (pe m)).toArray 236)).drew) 0 236 (Zs w.heap.size m m) (pe m):=by
     refine⟨by rw[uv],Or.inr ⟨w.heap.size,m,_,by rw[Hi],Nat.zero_le _,N,Nat.le_of_eq (Hi m),by unfold maxLen;omega,?_,?_⟩⟩
     ·simp only[List.size_toArray];rw[uv,Hi]
     rw[List.toList_toArray,<-uv,List.take_length]
    obtain⟨P,o⟩:=h.made g hs Z Z (ahB l hs) p.nd hlen (((H.refl _ w).alloc _).drew) (Nat.le_refl _) hr hm K;exact⟨⟨mb,_,_,P,s,p,r⟩,o⟩
   have Q:=Y h;have R:=Y hlen;have S:=Y g;rw[QT hs,hs] at c;have C:(Instr.lookup 213 (.map (some mb)) (.int .i64 num) true).run prog w=.ok (.tuple #[.slice none 0 0,.bool false]) w:=c;clear ht b h hf l r c hs p s u hlen g;go_enter func125,ntmps125;go_wp2_with fail;obtain⟨w3,cR,x,y⟩:=(Q.j.quiet (((H.refl _ w).alloc (.cells (fl mI (pe m)).toArray 236)).drew)).m.update (t:=213) (e:=335) IL underlying213 (by have:=R.j;unfold maxLen;omega) (MH S.j) (val:=Zs w.heap.size m m) (d:=.held (Zs w.heap.size m m)) (ps:=[]) rfl;have z:=Y (F.j w3 x y);clear x y
   go_region
   all_goals
    go_wp2
    go_ret;exact⟨by rw[a.j];try rfl,by rw[v.j];exact z.j.1,z.j.2⟩
def kV(w:Z0):Prop:=w.heap[1]?=some (.cells #[.int .i64 (-1),.int .i64 (-1)] 45 (0,0))
theorem kV.quiet(h:kV w)(a:Zq w w2):kV w2:=by unfold kV;rw[a.block _ (aB h) id];exact h
theorem Hz(k):bq [] k=none:=rfl
theorem UX:Wf [] []:=⟨by simp,by simp,List.Pairwise.nil,by simp,⟨λ_=>0,by simp⟩,by simp⟩
theorem UO:Wx [] []:=⟨by simp,by simp,by simp,by simp,by simp⟩
theorem acE(h:kV w):Zk 36 #[] w λe w'=>∃xb,Zr e (M xb)/\w.heap.size<=xb/\jo (λk=>k<w.heap.size/\k≠1) w' xb [] []/\Zq w w':=by
 have g:= @run_makeMap prog;have d:Hid (∀o p,Zq w ((w.alloc o).alloc p)):=λo p=>((H.refl _ w).alloc _).alloc _;have a:=Y h;go_enter func36,ntmps36;go_wp2;go_ret;have b:=d.j (.map #[] 0) (.cells #[.map (some w.heap.size)] 215);have f:((w.alloc (.map #[] 0)).alloc (.cells #[.map (some w.heap.size)] 215)).heap[w.heap.size+1]?=some (.cells #[.map (some w.heap.size)] 215 (0,0)):=by
  have:=heap_alloc_last (w.alloc (.map #[] 0)) (.cells #[.map (some w.heap.size)] 215);simpa using this
 have i:=aB a.j;refine⟨w.heap.size+1,rfl,Z,⟨w.heap.size,.map [],λ_=>0,⟨a.j.quiet b,f,(World.ownsMap_made w prog 3 RH).alloc (.cells #[.map (some w.heap.size)] 215),λk hk=>rfl,(λk n z hk=>by rw[Hz] at hk;cases hk),(λk n hk=>by rw[Hz] at hk;cases hk),(λj k c=>by rw[Hz] at c;cases c),(λh=>h.2 rfl),(λh=>Z),(λh=>Z),(λk hk=>by rw[Hz] at hk;cases hk),(λk hk=>by simp;omega),(λk n hk=>by rw[Hz] at hk;cases hk),by simp,by simp,by simp⟩,UX,UO,by simp⟩,b⟩
end Go.Proofs.YtdjlkahbpdoemaaGreatDoor
namespace Go.Vx
abbrev Sh:=Option Addr×Nat×Nat
def Ia(s:Sh):Value:=.slice s.1 s.2.1 s.2.2
def Md:Lay Sh:=⟨λs=>[Ia s],1,λ_=>rfl,λa u hu=>by simp only[List.mem_cons,List.not_mem_nil,or_false] at hu;rw[hu];rfl,I⟩
end Go.Vx
namespace Go.Proofs.YtdjlkahbpdoemaaGreatDoor
theorem jo.step(h:jo U w xb bs es)(d:H S w w2)(c:∀k,k<w.heap.size->S k->U k)(b:∀k,V k->U k\/(w.heap.size<=k/\k<w2.heap.size)):jo V w2 xb bs es:=by
 have⟨mb,D,G,h,e⟩:=h;have hn:=aB h.ns;have f:=aB h.x;have hm:=h.m.lt;refine⟨mb,D,G,h.aside d (λs=>h.un (c _ hn s)) (λs=>h.ux (c _ f s)) (λs=>h.um (c _ hm s)) (λk hk s=>h.ug k hk (c _ (h.JO hk) s)) (λhv=>?_) (λhv=>?_) (λhv=>?_) (λk hk hv=>?_) (λk hv=>?_),e⟩
 ·rcases b _ hv with a|a
  ·exact h.un a
  omega
 ·rcases b _ hv with a|a
  ·exact h.ux a
  omega
 ·rcases b _ hv with a|a
  ·exact h.um a
  omega
 ·rcases b _ hv with a|a
  ·exact h.ug k hk a
  have:=h.JO hk;omega
 rcases b _ hv with a|a
 ·exact Nat.lt_of_lt_of_le (h.low k a) d.size
 exact a.2
def eh(o:Int×Int):Int:=if o.1=1 then ((2^(o.2/256).toNat:Nat):Int) else 1
def ej(o:Int×Int):Int:=if o.1=1 then o.2 % 256 else o.2
def rz(a n b m:Int):Bool:=decide (a<b+m/\b<a+n)
def lE(x y:Int×Int):Bool:=rz (ej x) (eh x) (ej y) (eh y)
def kB(n:Int):Prop:=0<=n/\n<2304
theorem Qp(h:o.1=1->kB o.2):1<=eh o/\eh o<=256:=by
 unfold eh;split
 ·rename_i h1;have⟨b,c⟩:=h h1;have a:(o.2/256).toNat<=8:=Z;have d:2^(o.2/256).toNat<=2^8:=Nat.pow_le_pow_right I a;have e:0<2^(o.2/256).toNat:=Nat.pow_pos I;omega
 omega
theorem Qr(h:o.1=1):0<=ej o/\ej o<256:=by
 unfold ej;rw[if_pos h];omega
def sK(rs:Lp)(n:Int):Option Nat:=dL (λb=>decide (b.1=n)) rs 0
def ak7(n:Int)(o:Int×Int):Bool:=lE (1,n) o
def ak6(n:Int)(r:Int×Int):Bool:=lE (1,n) (1,r.1)&&decide (eh (1,r.1)<eh (1,n))
def ak8(os rs:Lp)(n:Int):Bool:=os.any (ak7 n) || rs.any (ak6 n)
def aqV(os rs:Lp)(n:Int):Bool×Int:=match sK rs n with|none=>(false,6)|some _=>(!ak8 os rs n,0)
def nE(rs:Lp)(n:Int):Int×Int:=match sK rs n with|none=>(0,6)|some i=>((rs.getD i (0,0)).2,0)
def GG(os:Lp)(g:Int):Option Nat:=dL (λo=>decide (o.2=g)) os 0
def atR(P:Int)(os:Lp)(g:Int):(Int×Int)×Int:=if g<0\/P<=g then ((0,0),1) else match GG os g with|none=>((0,0),0)|some i=>(os.getD i (0,0),0)
theorem P9{n:Int}(h:sK rs n=some i):∃hi:i<rs.length,rs[i].1=n:=by
 have⟨hi,a⟩:=sZ h;simp only[Nat.sub_zero] at hi a;exact⟨hi,by simpa using a⟩
theorem aaA{xs:Lp}{k:Nat}(hk:k<xs.length)(d):xs.getD k d=xs[k]:=by simp[List.getD_eq_getElem?_getD,hk]
theorem aiy(h:w.heap[rc]?=some (.cells #[a0,a1] 71 (0,0))):(w.cell? (E rc 0)=some a0/\w.cell? (E rc 1)=some a1)/\∀j,w.frozen? (E rc j)=false:=
 ⟨⟨Zl h,Zl h⟩,λj=>by simp[World.frozen?,h]⟩
theorem obK:Kind prog dG 210 71:=sY (z:=.agg #[O 0,O 0]) (b:=16) underlying210 Zx rfl I
def iZ(P:Int)(os rs:Lp)(o:Int×Int):Int:=
 if o.1<1\/8<o.1 then 12 else if o.2<0\/(o.1=1/\2304<=o.2) then 1 else if ej o % eh o≠0\/P - eh o<ej o then 1
 else if (os.any (lE o) || rs.any (λr=>lE o (1,r.1)))=true then 7 else 0
def lR(P:Int)(os rs:Lp)(o:Int×Int):Lp:=if iZ P os rs o=0/\o.1≠1 then os++[o] else os
def oV(P:Int)(os rs:Lp)(o:Int×Int):Lp:=if iZ P os rs o=0/\o.1=1 then rs++[(o.2,0)] else rs
theorem TQ(o)(h:iZ P os rs o≠0):lR P os rs o=os/\oV P os rs o=rs:=⟨if_neg (λe=>h e.1),if_neg (λe=>h e.1)⟩
def zn(os rs:Lp):Lp:=os++rs.map (λr=>(1,r.1))
def bA(n:Int):Nat:=(n % 256).toNat
def bN(n:Int):Nat:=2^(n/256).toNat
theorem abr(n):0<bN n:=Nat.pow_pos I
theorem Ir(n):ej (1,n)=(bA n:Int):=by unfold ej bA;rw[if_pos rfl];simp only;omega
theorem Iq(n):eh (1,n)=(bN n:Int):=if_pos rfl
theorem zO(h:o.1≠1):ej o=o.2:=if_neg h
theorem Dx(h:o.1≠1):eh o=1:=if_neg h
def xS(m n:Int):Prop:=bA m<bA n+bN n/\bA n<bA m+bN m
theorem ajg(m n):lE (1,m) (1,n)=true↔xS m n:=by
 unfold lE rz xS;rw[Ir,Ir,Iq,Iq,decide_eq_true_iff];omega
theorem ajj(m)(h:o.1≠1):lE (1,m) o=true↔(bA m:Int)<=o.2/\o.2<(bA m:Int)+(bN m:Int):=by
 unfold lE rz;rw[Ir,Iq,zO h,Dx h,decide_eq_true_iff];omega
theorem aji{x:Int×Int}(a:x.1≠1)(h:o.1≠1):lE x o=true↔x.2=o.2:=by
 unfold lE rz;rw[zO a,Dx a,zO h,Dx h,decide_eq_true_iff];omega
theorem ajh{x:Int×Int}(a:x.1≠1)(m):lE x (1,m)=true↔(bA m:Int)<=x.2/\x.2<(bA m:Int)+(bN m:Int):=by
 unfold lE rz;rw[Ir,Iq,zO a,Dx a,decide_eq_true_iff];omega
theorem xS.symm{m n:Int}(h:xS m n):xS n m:=⟨h.2,h.1⟩
theorem xS.refl(n):xS n n:=by
 have:=abr n;unfold xS;omega
structure ie(P:Int)(os rs:Lp):Prop where
 p:1<=P/\P<=256
 ok:∀o∈os,2<=o.1/\o.1<=8/\0<=o.2/\o.2<P
 rk:∀r∈rs,kB r.1/\bA r.1 % bN r.1=0/\(bA r.1:Int)+(bN r.1:Int)<=P/\0<=r.2/\r.2<=(bN r.1:Int)
 on:(os.map (·.2)).Nodup
 rn:(rs.map (·.1)).Nodup
 bo:∀r∈rs,∀o∈os,(bA r.1:Int)<=o.2->o.2<(bA r.1:Int)+(bN r.1:Int)->o.2<(bA r.1:Int)+r.2
 br:∀r∈rs,∀s∈rs,xS r.1 s.1->bN s.1<bN r.1->(bA s.1:Int)+(bN s.1:Int)<=(bA r.1:Int)+r.2
theorem ie.nil(a:1<=P/\P<=256):ie P [] []:=⟨a,(λ_ h=>by cases h),(λ_ h=>by cases h),List.nodup_nil,List.nodup_nil,(λ_ h=>by cases h),(λ_ h=>by cases h)⟩
theorem ie.lo(h:ie P os rs):os.length<=256:=by
 have h1:=yI (os.map (·.2)) ((List.range 256).map (λk:Nat=>(k:Int))) h.on (λx a=>by
  obtain⟨o,b,rfl⟩:=List.mem_map.1 a;have:=h.ok o b;have:=h.p;exact List.mem_map.2 ⟨o.2.toNat,List.mem_range.2 Z,Z⟩)
 simpa using h1
theorem ie.lr(h:ie P os rs):rs.length<=2304:=by
 have h1:=yI (rs.map (·.1)) ((List.range 2304).map (λk:Nat=>(k:Int))) h.rn (λx a=>by
  obtain⟨r,hr,rfl⟩:=List.mem_map.1 a;have:=(h.rk r hr).1;unfold kB at this;exact List.mem_map.2 ⟨r.1.toNat,List.mem_range.2 Z,Z⟩)
 simpa using h1
theorem ie.add(h:ie P os rs)(o):ie P (lR P os rs o) (oV P os rs o):=by
 by_cases he:iZ P os rs o=0
 ·unfold iZ at he;by_cases e1:o.1<1\/8<o.1
  ·rw[if_pos e1] at he;cases he
  rw[if_neg e1] at he;by_cases g:o.2<0\/(o.1=1/\2304<=o.2)
  ·rw[if_pos g] at he;cases he
  rw[if_neg g] at he;by_cases f:ej o % eh o≠0\/P - eh o<ej o
  ·rw[if_pos f] at he;cases he
  rw[if_neg f] at he;by_cases j:(os.any (lE o) || rs.any (λr=>lE o (1,r.1)))=true
  ·rw[if_pos j] at he;cases he
  have t:(os.any (lE o) || rs.any (λr=>lE o (1,r.1)))=false:=by simpa using j
  rw[Bool.or_eq_false_iff,List.any_eq_false,List.any_eq_false] at t;have⟨fo,fr⟩:=t;have u:iZ P os rs o=0:=by unfold iZ;rw[if_neg e1,if_neg g,if_neg f,if_neg j]
  have hp:=h.p;by_cases hk:o.1=1
  ·have l:lR P os rs o=os:=if_neg (λe=>e.2 hk);have m:oV P os rs o=rs++[(o.2,0)]:=if_pos ⟨u,hk⟩;rw[l,m];have⟨k,n⟩:=o;simp only at hk;subst hk;rw[Ir,Iq] at f;have p:kB n:=by
    have a1:¬n<0:=λc=>g (Or.inl c);have a2:¬2304<=n:=λc=>g (Or.inr ⟨rfl,c⟩);unfold kB;omega
   have g1:bA n % bN n=0:=by
    have:((bA n % bN n:Nat):Int)=0:=by rw[Int.natCast_emod];exact Classical.byContradiction (λc=>f (Or.inl c))
    omega
   have g2:(bA n:Int)+(bN n:Int)<=P:=by have:=λc=>f (Or.inr c);omega
   have no:∀o∈os,¬((bA n:Int)<=o.2/\o.2<(bA n:Int)+(bN n:Int)):=λo i c=>fo o i ((ajj n (by have:=h.ok o i;omega)).2 c);have q:∀r∈rs,¬xS n r.1:=λr hr c=>fr r hr ((ajg n r.1).2 c);refine⟨hp,h.ok,λr hr=>?_,h.on,?_,λr hr o i a b=>?_,λr hr s hs a b=>?_⟩
   ·rcases List.mem_append.1 hr with hr|hr
    ·exact h.rk r hr
    rw[List.mem_singleton] at hr;subst hr;have:=abr n;exact⟨p,g1,g2,by simp,by simp⟩
   ·rw[List.map_append,List.nodup_append];refine⟨h.rn,by simp,λa ha b hb=>?_⟩;simp only[List.map_cons,List.map_nil,List.mem_singleton] at hb;obtain⟨r,hr,rfl⟩:=List.mem_map.1 ha;intro c;rw[hb] at c;exact q r hr (c▸xS.refl n)
   ·rcases List.mem_append.1 hr with hr|hr
    ·exact h.bo r hr o i a b
    rw[List.mem_singleton] at hr;subst hr;exact absurd ⟨a,b⟩ (no o i)
   rcases List.mem_append.1 hr with hr|hr
   ·rcases List.mem_append.1 hs with hs|hs
    ·exact h.br r hr s hs a b
    rw[List.mem_singleton] at hs;subst hs;exact absurd a.symm (q r hr)
   rw[List.mem_singleton] at hr;subst hr;rcases List.mem_append.1 hs with hs|hs
   ·exact absurd a (q s hs)
   rw[List.mem_singleton] at hs;subst hs;exact absurd b (Nat.lt_irrefl _)
  have l:lR P os rs o=os++[o]:=if_pos ⟨u,hk⟩;have m:oV P os rs o=rs:=if_neg (λe=>hk e.2);rw[l,m];rw[zO hk,Dx hk] at f;refine⟨hp,λx d=>?_,h.rk,?_,h.rn,λr hr x d a b=>?_,h.br⟩
  ·rcases List.mem_append.1 d with d|d
   ·exact h.ok x d
   rw[List.mem_singleton] at d;subst d;have:=λc=>f (Or.inr c);omega
  ·rw[List.map_append,List.nodup_append];refine⟨h.on,by simp,λa ha b hb=>?_⟩;simp only[List.map_cons,List.map_nil,List.mem_singleton] at hb;obtain⟨x,d,rfl⟩:=List.mem_map.1 ha;intro c;exact fo x d ((aji hk (by have:=h.ok x d;omega)).2 (by rw[c,hb]))
  rcases List.mem_append.1 d with d|d
  ·exact h.bo r hr x d a b
  rw[List.mem_singleton] at d;subst d;exact absurd ((ajh hk r.1).2 ⟨a,b⟩) (fr r hr)
 rwa[(TQ o he).1,(TQ o he).2]
def RI(v:Z3):Option (DataW Value×List MemPlace):=match v with|.int .i64 n=>if (Lit.int .i64 n).wf=true then some (.lit (.int .i64 n),[]) else none|_=>none
theorem XG{k:Int}(h:af k):(Lit.int .i64 k).wf=true:=by
 unfold af at h;simp[Lit.wf,IntKind.min,IntKind.max,IntKind.bits,IntKind.signed]<;>omega
theorem Hr{k:Int}(h:(Lit.int .i64 k).wf=true):af k:=by
 unfold af;simp[Lit.wf,IntKind.min,IntKind.max,IntKind.bits,IntKind.signed] at h<;>omega
theorem zW{k:Int}(h:af k):keyOf prog 3 (.int .i64 k)=some (.int .i64 k):=Maps.keyOf_int_mk underlying3 (XG h)
theorem ry:Maps.Keyed prog 3:=Maps.int_keyed underlying3
theorem aja(w):(zeroValue 3).run prog w=.ok (.int .i64 0) w:=Zx
theorem XH{k:Int}(h:af k):RI (.int .i64 k)=some (.lit (.int .i64 k),[]):=if_pos (XG h)
theorem Wk(h:RI v=some y):∃a,v=.int .i64 a/\y=(.lit (.int .i64 a),[])/\af a:=by
 unfold RI at h;split at h
 ·rename_i n;by_cases hw:(Lit.int .i64 n).wf=true
  ·rw[if_pos hw] at h;injection h with h
   exact⟨n,rfl,h.symm,Hr hw⟩
  rw[if_neg hw] at h;cases h
 cases h
theorem QM(h:w.ownsMap prog 3 RI mb n D)(a:H S w w2)(hb:¬S mb):w2.ownsMap prog 3 RI mb n D:=by
 have⟨e,clock,b,F,hs,c⟩:=h;exact⟨e,clock,(a.block mb h.lt hb).trans b,F,hs,c⟩
theorem ajb(h:w.ranges prog 3 RI mb r n D left fG)(a:H S w w2)(hb:¬S mb)(hr:¬S r):w2.ranges prog 3 RI mb r n D left fG:=by
 have⟨l,clock,since,seen,c0,b,F,hs,c,fN,rest⟩:=h;exact⟨l,clock,since,seen,c0,(a.block mb h.owns.lt hb).trans b,F,hs,c,(a.block r h.lt hr).trans fN,rest⟩
theorem XI{k:Nat}{c:Array Value}(h:w.ranges prog 3 RI mb r n D left fG)(a:w.heap[k]?=some (.cells c t fr)):r≠k:=by
 have⟨l,clock,since,seen,c0,b,F,hs,d,fN,rest⟩:=h;rintro rfl;rw[fN] at a;cases a
theorem QO{j:Nat}{c:Array Value}(h:w.heap[j]?=some (.cells c t fr))(a:w.ownsMap prog 3 RI mb n D):j≠mb:=by
 have⟨es,clock,hb,_⟩:=a;rintro rfl;rw[h] at hb;cases hb
theorem QP(h:w.grownBy w2 (some r)):H (λj=>j=r) w w2:=⟨h.os,h.tape,h.output,h.size,λk hk hn=>h.block k hk (λe=>hn (by injection e))⟩
theorem QN(h:w.grownBy w2 none):Zq w w2:=⟨h.os,h.tape,h.output,h.size,λk hk _=>h.block k hk (by simp)⟩
theorem ajd(hm:w.ownsMap prog 3 RI mb n D):w.ownsMap prog 3 RI mb (Maps.size D) D:=by
 obtain⟨l,clock,hb,F,hs,rfl⟩:=hm;exact⟨l,clock,hb,F,by simp[Maps.size,length_sorted],rfl⟩
theorem ajc(hm:w.ownsMap prog 3 RI mb n D)(hs:∀k,af k->Maps.has D (.int .i64 k)=true->k∈ks)(c:∀k∈ks,Maps.has D (.int .i64 k)=true)(g:ks.Nodup):ks.Perm (intKeys D)/\Maps.size D=ks.length:=by
 have⟨l,b,h,_⟩:=hm.entries ry;have⟨i,d,j⟩:=hm.keysOf;obtain rfl:l=i:=by rw[b] at d;simpa using d
 have hk:∀p∈l,∃x,p.1=.int .i64 x/\af x:=λp hp=>by
  have⟨v,hv⟩:=j p hp;have⟨x,_,a,hw⟩:=Maps.keyOf_i64 underlying3 hv;exact⟨x,a,Hr hw⟩
 have hp:ks.Perm (intKeys D):=by
  rw[b] at hs c|-;refine perm_intKeys h (λp hp=>?_) g (λx=>?_)
  ·have⟨x,a,_⟩:=hk p hp;exact⟨x,a⟩
  constructor
  ·intro a;exact c x a
  intro a;have e:=a;rw[Maps.has_eq,List.any_eq_true] at e;have⟨p,hp,f⟩:=e;have⟨y,hy,m⟩:=hk p hp;rw[hy] at f;have o:y=x:=by simpa[Lit.sameKey] using f
  subst o;exact hs y m a
 refine⟨hp,?_⟩;have h1:=hp.length_eq;rw[b] at h1|-;rw[Maps.size_eq];simp only[intKeys,List.length_map] at h1;exact h1.symm
def Fe(left:Lit->Bool)(x:Int):Lit->Bool:=λz=>left z&& !z.sameKey (.int .i64 x)
theorem VA(left x y):Fe left x (.int .i64 y)=(left (.int .i64 y)&& !decide (y=x)):=by
 unfold Fe;simp[Lit.sameKey]
end Go.Proofs.YtdjlkahbpdoemaaGreatDoor
namespace Go.Vx
def cn:Lay Nat:=⟨λg=>[M g],1,λ_=>rfl,λa u hu=>by simp only[List.mem_cons,List.not_mem_nil,or_false] at hu;subst hu;rfl,I⟩
end Go.Vx
namespace Go.Proofs.YtdjlkahbpdoemaaGreatDoor
def RP(v:Z3):Option (DataW Value×List MemPlace):=match v with|.pointer p=>some (.held (.pointer p),[])|_=>none
theorem P3(h:RP v=some y):∃p,v=.pointer p/\y=(.held (.pointer p),[]):=by
 unfold RP at h;split at h
 ·injection h with h;exact⟨_,rfl,h.symm⟩
 cases h
theorem Bw(h:w.ownsMap prog 3 RP mb n D)(a:H S w w2)(hb:¬S mb):w2.ownsMap prog 3 RP mb n D:=by
 have⟨e,clock,b,F,hs,c⟩:=h;exact⟨e,clock,(a.block mb h.lt hb).trans b,F,hs,c⟩
theorem zU{j:Nat}{c:Array Value}(h:w.heap[j]?=some (.cells c t fr))(a:w.ownsMap prog 3 RP mb n D):j≠mb:=by
 have⟨es,clock,hb,_⟩:=a;rintro rfl;rw[h] at hb;cases hb
theorem QK(hm:w.ownsMap prog 3 RP mb n D):w.ownsMap prog 3 RP mb (Maps.size D) D:=by
 obtain⟨l,clock,hb,F,hs,rfl⟩:=hm;exact⟨l,clock,hb,F,by simp[Maps.size,length_sorted],rfl⟩
theorem Mx(hm:w.ownsMap prog 3 RP mb n D)(hs:∀k,af k->Maps.has D (.int .i64 k)=true->k∈ks)(c:∀k∈ks,Maps.has D (.int .i64 k)=true)(g:ks.Nodup):ks.Perm (intKeys D)/\Maps.size D=ks.length:=by
 have⟨l,b,h,_⟩:=hm.entries ry;have⟨i,d,j⟩:=hm.keysOf;obtain rfl:l=i:=by rw[b] at d;simpa using d
 have hk:∀p∈l,∃x,p.1=.int .i64 x/\af x:=λp hp=>by
  have⟨v,hv⟩:=j p hp;have⟨x,_,a,hw⟩:=Maps.keyOf_i64 underlying3 hv;exact⟨x,a,Hr hw⟩
 have hp:ks.Perm (intKeys D):=by
  rw[b] at hs c|-;refine perm_intKeys h (λp hp=>?_) g (λx=>?_)
  ·have⟨x,a,_⟩:=hk p hp;exact⟨x,a⟩
  constructor
  ·intro a;exact c x a
  intro a;have e:=a;rw[Maps.has_eq,List.any_eq_true] at e;have⟨p,hp,f⟩:=e;have⟨y,hy,m⟩:=hk p hp;rw[hy] at f;have o:y=x:=by simpa[Lit.sameKey] using f
  subst o;exact hs y m a
 refine⟨hp,?_⟩;have h1:=hp.length_eq;rw[b] at h1|-;rw[Maps.size_eq];simp only[intKeys,List.length_map] at h1;exact h1.symm
theorem QL(h:w.grownBy w2 (some mb)):H (λj=>j=mb) w w2:=⟨h.os,h.tape,h.output,h.size,λk hk hn=>h.block k hk (λe=>hn (by injection e))⟩
theorem FM{k n:Int}(h:k≠n):(Lit.int .i64 k)≠(Lit.int .i64 n):=λe=>h (by injection e)
theorem My{n:Int}(h:af n):WideAt.IsKeyLit (.int .i64 n):=ry.key (zW h)
def kK(G:Int->Nat)(n:Int)(g:Nat):Int->Nat:=λk=>if k=n then g else G k
theorem Bt(G n g):kK G n g n=g:=if_pos rfl
theorem yH(G){n k:Int}(g)(h:k≠n):kK G n g k=G k:=if_neg h
def Lv(w:Z0)(x:Nat):Prop:=∃cs T,w.heap[x]?=some (.cells cs T (0,0))
def zc(gs:List Nat)(g:Nat):Option Nat:=dL (λx=>decide (x=g)) gs 0
theorem W3{base:Nat}(h:w.ownsRow base e size v n xs):w.drew.ownsRow base e size v n xs:=by
 refine⟨h.1,?_⟩;rcases h.2 with a|⟨c,b,cur,a,hb,hg,rest⟩
 ·exact Or.inl a
 exact Or.inr ⟨c,b,cur,a,hb,hg,rest⟩
theorem W4{base g cap m:Nat}(h:w.ownsRow base e size (Zs g n cap) n xs)(hm:m<=n):w.ownsRow base e size (Zs g m cap) m (xs.take (m*size)):=by
 have j:m*size<=n*size:=Nat.mul_le_mul_right _ hm;refine⟨by rw[List.length_take,h.1];omega,?_⟩;rcases h.2 with⟨a,_⟩|⟨k,b,cur,a,hb,hg,c,d,f,i⟩
 ·cases a
 simp only[Value.slice.injEq,Option.some.injEq,Addr.mk.injEq,and_true,true_and] at a;obtain⟨rfl,rfl⟩:=a;refine Or.inr ⟨g,cap,cur,rfl,hb,hg,Nat.le_trans hm c,d,f,?_⟩;rw[<-i,List.take_take];congr 1;omega
theorem Gt(gs):fl cn gs=gs.map (λg=>Value.pointer (some (E g 0))):=by
 induction gs with
 |nil=>rfl
 |cons a l b=>rw[tD,b];rfl
theorem aaV(hn:gs.Nodup)(hi:i<gs.length):gs.filter (λx=>decide (x≠gs[i]))=gs.take i++gs.drop (i+1):=by
 have h1:=List.pairwise_iff_getElem.1 hn;have c:∀x∈gs.take i,decide (x≠gs[i])=true:=λx a=>by
  obtain⟨j,b,rfl⟩:=List.getElem_of_mem a;rw[List.length_take] at b;rw[List.getElem_take];exact decide_eq_true (h1 j i Z hi Z)
 have hr:∀x∈gs.drop (i+1),decide (x≠gs[i])=true:=λx a=>by
  obtain⟨j,b,rfl⟩:=List.getElem_of_mem a;rw[List.length_drop] at b;rw[List.getElem_drop];exact decide_eq_true (λe=>h1 i (i+1+j) hi Z Z e.symm)
 have e:gs=gs.take i++gs[i]::gs.drop (i+1):=by rw[<-List.drop_eq_getElem_cons hi,List.take_append_drop]
 have d:gs.filter (λx=>decide (x≠gs[i]))=(gs.take i++gs[i]::gs.drop (i+1)).filter (λx=>decide (x≠gs[i])):=e▸rfl;rw[d,List.filter_append,List.filter_cons,List.filter_eq_self.2 c,List.filter_eq_self.2 hr];simp
def Kq(A:Z1)(W W2:Z0):Prop:=∀b,A b->W2.heap[b]?=W.heap[b]?
end Go.Proofs.YtdjlkahbpdoemaaGreatDoor

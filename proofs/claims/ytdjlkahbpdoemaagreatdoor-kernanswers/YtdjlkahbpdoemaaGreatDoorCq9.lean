import Derived.Test.YtdjlkahbpdoemaaGreatDoorCq2
import Derived.Test.YtdjlkahbpdoemaaGreatDoorProg
import Derived.ChangeKeysEq
import Derived.Deep.CutRange
import Derived.Deep.RegionLaw
import Derived.Ground.GgzProg
import Derived.Ground.MpProg
import Derived.Ground.SlgmProg
import Derived.Shelf.LaysC
import Derived.Shelf.LaysM
import Derived.Shelf.Pu.ParseUintPublic10
import Derived.Shelf.SlGeneric
import Derived.Shelf.SlIterI.Nil
import Derived.Shelf.Small.Bits
import Derived.Shelf.Small.Wraps
import Derived.Shelf.SortM.Plain
import Derived.Shelf.SortM.SortNone
import Derived.Shelf.Strconv.Atoi
import Derived.Shelf.Strconv.AtoiAll
import Derived.Shelf.Strconv.AtoiErrFast
import Derived.Shelf.Strconv.AtoiFail
import Derived.Shelf.Strconv.AtoiInnerAll
import Derived.Shelf.Strconv.AtoiLong
import Derived.Shelf.Strconv.Clone
import Derived.Shelf.Strconv.Itoa0
import Derived.Shelf.Strconv.Itoa1
import Derived.Shelf.Strconv.Itoa2
import Derived.Shelf.Strconv.Itoa3
import Derived.Shelf.Strconv.Lower
import Derived.Shelf.Strconv.ParseInt10
import Derived.Shelf.Strconv.ParseIntEmpty
import Derived.Shelf.Strconv.ParseUint10
import Derived.Shelf.Strconv.ParseUint10Any
import Derived.Shelf.Strconv.ParseUint10Empty
import Derived.Shelf.Strconv.RangeError
import Derived.Shelf.Strconv.SyntaxError
import Derived.Shelf.Strconv.ToError
import Derived.Shelf.Strconv.ToErrorRange
import Derived.Shelf.Strings.Count
import Derived.Shelf.Strings.Cut
import Derived.Shelf.Strings.Prefix
import Derived.Shelf.Strings.Search1
import Derived.Shelf.Strings.Search2
import Derived.Shelf.Strings.Search3
import Derived.Shelf.Strings.Split
import Derived.Shelf.Unicode.DecodeSlow
set_option maxRecDepth 100000
set_option maxHeartbeats 8000000
set_option linter.unusedVariables false
set_option linter.unusedSimpArgs false
open Go Go.Vx Go.Proofs.Tryz Go.ChangeShapes Go.WideShapes Go.ChangeAt Go.RowKit
namespace Go.Proofs.YtdjlkahbpdoemaaGreatDoor
theorem alD:(prog.info? 338).map (λi=>(i.zero,i.size))=some (some (.agg (List.replicate 4096 (.int .u8 0)).toArray),4096):=Zx
theorem alC:(prog.info? 275).map (λi=>(i.zero,i.size,i.bytes))=some (some (.pointer none),1,8):=Zx
theorem alI:(prog.info? 5).map (λi=>(i.zero,i.size,i.bytes))=some (some (.int .u8 0),1,1):=Zx
def GJ:Array Value:=(List.replicate 4096 (Value.int .u8 0)).toArray
theorem UE:∀w,(zeroValue 338).run prog w=.ok (.agg GJ) w:=(zero_of_info (P:=prog) alD).1
theorem UD(f o)(h:∀j,j<4096->f (o+j)=0):(jf f o 4096).toArray=GJ:=by
 rw[ag7 f o 4096 h];rfl
theorem afM{U:Z1}{w:Z0}{g n:Nat}{f:Nat->UInt8}(h:cP U w g n f)(p)(hp:p<n):
  Zk 293 #[M g,O (p:Int)] w λe w'=>∃b,Zr e (M b)/\w'.heap[b]?=some (.cells (jf f (4096*p) 4096).toArray 338 (0,0))/\Zq w w':=by
 have⟨bp,q,h⟩:=h;have k:=h.cm;have a:=h.cp hp;have l:0<=(p:Int)/\(p:Int)<(n:Int):=Z;have i:=Y h;cases c:q p with
 |none=>
  rw[c] at a;have j:w.cell? (E bp p)=some (.pointer none):=a;have d:=Y c;have m:=UE;clear a c;go_enter func293,ntmps293;go_wp2;all_goals
   go_ret;refine⟨_,rfl,?_,(H.refl _ w).alloc _⟩;rw[UD f (4096*p) (i.j.nil p hp d.j)]
   exact heap_alloc_last w _
 |some b=>
  rw[c] at a;have j:w.cell? (E bp p)=some (M b):=a;have d:Hid (q p=some b):=c;clear a c;go_enter func293,ntmps293
  go_wp2
  all_goals
   go_ret;exact⟨_,rfl,i.j.pg p hp b d.j,H.refl _ w⟩
theorem fy.made{U:Z1}{w:Z0}{e bp n:Nat}{q:Nat->Option Nat}{f:Nat->UInt8}(h:fy U w e bp n q f){p:Nat}(hp:p<n)(g:q p=none):
  fy U ((w.alloc (.cells GJ 338)).setCell (E bp p) (M w.heap.size)) e bp n (yC q p w.heap.size) f/\Zn U w ((w.alloc (.cells GJ 338)).setCell (E bp p) (M w.heap.size)):=by
 have l:=aB h.p
 have hn:∀b o,w.heap[b]?=some o->b≠bp->((w.alloc (.cells GJ 338)).setCell (E bp p) (M w.heap.size)).heap[b]?=some o:=λb o hb m=>by
  rwa[RowKit.Below.heap_setCell _ _ _ _ m,RowKit.Below.heap_alloc _ _ _ (aB hb)]
 refine⟨⟨h.pos,h.top,hn _ _ h.m h.ne,?_,?_,?_,?_,h.um,h.up,?_,?_⟩,?_⟩
 ·have h1:(w.alloc (.cells GJ 338)).heap[bp]?=some (.cells (sM q n).toArray 275 (0,0)):=by
   rw[RowKit.Below.heap_alloc _ _ _ l];exact h.p
  rw[heap_setCell_same _ bp p _ _ _ h1];congr 2;have:=ah8 q n p w.heap.size;rw[<-this];simp[Fy]
 ·intro i hi c j d;refine h.nil i hi ?_ j d;unfold yC at c;split at c
  ·cases c
  exact c
 ·intro i hi b hb;unfold yC at hb;split at hb
  ·obtain rfl:w.heap.size=b:=by simpa using hb
   subst i;rw[RowKit.Below.heap_setCell _ _ _ _ (by show w.heap.size≠bp;omega),heap_alloc_last,UD f (4096*p) (h.nil p hp g)]
  exact hn _ _ (h.pg i hi b hb) (h.WE hi hb).2
 ·intro i j b hi d h1 a;unfold yC at h1 a;split at h1<;>split at a
  ·omega
  ·have:w.heap.size=b:=by simpa using h1
   have:=aB (h.pg j d b a);omega
  ·have:w.heap.size=b:=by simpa using a
   have:=aB (h.pg i hi b h1);omega
  exact h.inj i j b hi d h1 a
 ·intro i b hi hb hu;unfold yC at hb;split at hb
  ·have:w.heap.size=b:=by simpa using hb
   have:=h.low b hu;omega
  exact h.ug i b hi hb hu
 ·intro k hk;have:=h.low k hk;simp[World.setCell];omega
 exact((H.refl _ w).alloc _).setCell (Or.inl h.up) _
theorem XO{U:Z1}{w:Z0}{a bp n:Nat}{q:Nat->Option Nat}{f:Nat->UInt8}(h:fy U w a bp n q f)(p)(hp:p<n):
  Zk 132 #[M a,O (p:Int)] w λe w'=>∃b l,Zr e (M b)/\fy U w' a bp n l f/\l p=some b/\Zn U w w':=by
 have m:=h.cm;have c:=h.cp hp;have z:0<=(p:Int)/\(p:Int)<(n:Int):=Z;have d:=Y h;cases g:q p with
 |none=>
  rw[g] at c;have r:w.cell? (E bp p)=some (.pointer none):=c;have i:=Y g;have A:=UE;have j:=aB d.j.p;have k:∀o,(w.alloc o).cell? (E a 0)=some (Zs bp n n):=λo=>by
   rw[((H.refl (λ_=>False) w).alloc o).cell (p:=E a 0) (aB d.j.m) id];exact m
  have s:∀o,(w.alloc o).cell? (E bp p)=some (.pointer none):=λo=>by
   rwa[((H.refl (λ_=>False) w).alloc o).cell (p:=E bp p) j id]
  have t:∀o,(w.alloc o).frozen? (E bp p)=false:=λo=>by
   have h1:(w.alloc o).heap[bp]?=some (.cells (sM q n).toArray 275 (0,0)):=by
    rw[RowKit.Below.heap_alloc _ _ _ j];exact d.j.p
   simp[World.frozen?,h1]
  have u:∀o v,((w.alloc o).setCell (E bp p) v).cell? (E a 0)=some (Zs bp n n):=λo v=>by
   rw[World.cell?_setCell_other _ _ _ _ (by intro e;have:=d.j.ne;injection e with e1;omega)];exact k o
  have x:∀o v,((w.alloc o).setCell (E bp p) v).cell? (E bp p)=some v:=λo v=>World.cell?_setCell_same _ _ _ (s o);clear c g j;go_enter func132,ntmps132;go_wp2;all_goals
   go_ret;have⟨h1,y⟩:=d.j.made hp i.j;exact⟨_,_,rfl,h1,by simp[yC],y⟩
 |some b=>
  rw[g] at c;have r:w.cell? (E bp p)=some (M b):=c;have i:Hid (q p=some b):=g;clear c g;go_enter func132,ntmps132
  go_wp2
  all_goals
   go_ret;exact⟨_,q,rfl,d.j,i.j,H.refl _ w⟩
theorem ajK(n):madeCells #[.pointer none] n=(sM (λ_=>none) n).toArray:=by
 unfold madeCells sM;apply Array.ext';simp;intro i _;simp[Fy,Nat.mod_one]
theorem ajG(n:Nat)(h:n<=256)(w):(Instr.makeSlice 195 (O (n:Int)) (O (n:Int))).run prog w=.ok (Zs w.heap.size n n) (w.alloc (.cells (sM (λ_=>none) n).toArray 275)):=by
 have hi:=alC;cases a:prog.info? 275 with
 |none=>rw[a] at hi;simp at hi
 |some i=>
  rw[a] at hi;simp only[Option.map_some,Option.some.injEq,Prod.mk.injEq] at hi;have:=run_make (P:=prog) w 195 275 i (.pointer none) underlying195 a hi.1 .i64 .i64 n n Z Z (by rw[hi.2.2];omega) Z;rw[this,hi.2.1,Nat.mul_one];simp only[Int.toNat_natCast,Value.cells];rw[ajK]
theorem aiR(n)(hn:n<1\/256<n)(w):
  Zk 33 #[O n] w λe w'=>Zr e (.tuple #[.pointer none,O 1])/\w'=w:=by
 by_cases h1:n<1
 ·go_enter func33,ntmps33;go_wp2;all_goals
   go_ret2;exact⟨rfl,rfl⟩
 have a:256<n:=Z;go_enter func33,ntmps33;go_wp2;all_goals
  go_ret2;exact⟨rfl,rfl⟩
theorem aiQ(n:Nat)(h1:1<=n)(c:n<=256)(w):
  Zk 33 #[O (n:Int)] w λe w'=>∃a,Zr e (.tuple #[M a,O 0])/\w.heap.size<=a/\a<w'.heap.size/\Zq w w'/\∀U,(∀k,U k->k<w.heap.size)->cP U w' a n (λ_=>0):=by
 have f:=ajG n c w;have c1:¬(n:Int)<1:=Z;have c2:¬256<(n:Int):=Z;have d:Hid (1<=n/\n<=256):=⟨h1,c⟩;go_enter func33,ntmps33;go_wp2;all_goals
  go_ret2;refine⟨_,rfl,?_,?_,((H.refl _ w).alloc _).alloc _,?_⟩
  ·simp
  ·simp
  intro U b;refine⟨w.heap.size,λ_=>none,d.j.1,d.j.2,?_,?_,λ_ _ _ _ _=>rfl,λ_ _ _ hb=>(by cases hb),λ_ _ _ _ _ hb=>(by cases hb),?_,?_,λ_ _ _ hb=>(by cases hb),?_⟩
  ·have:=heap_alloc_last (w.alloc (.cells (sM (λ_=>none) n).toArray 275)) (.cells #[Zs w.heap.size n n] 197);simpa using this
  ·rw[RowKit.Below.heap_alloc _ _ _ (by simp)];exact heap_alloc_last _ _
  ·intro hu;have:=b _ hu;omega
  ·intro hu;have:=b _ hu;omega
  intro k hk;have:=b k hk;simp;omega
end Go.Proofs.YtdjlkahbpdoemaaGreatDoor
namespace Go.Vx
theorem VC{P:Program}{ops:Array Oper}{o:Oper}{a:Act}{w:Z0}{K:Act->World->Prop}{Q:Exit->Act->World->Prop}{c:Prop}{R:Ending->World->Prop}(hg:o.guard=none)(f args d)(g:o.op=Op.call {callee:=Callee.value (.func f),args:=args,argTypes:=d})(b)(hv:args.map a.eval=b)(i:(callFunc f b).run P w=.ok (.enter f b) w)(j:Calls P f b w R)(k:∀e w',R e w'->∃v,Zr e v/\K (a.put o.dst v) w'):
  if Region.wanted o (yielded ops a.tmps)=true then Oper.wp P o a w K Q else c:=by
 have hw:Region.wanted o (yielded ops a.tmps)=true:=by simp[Region.wanted,hg]
 rw[if_pos hw];unfold Oper.wp;simp[execOp,g,resolve,invoke,hv,i,Act.eval,Deferred.ofValue];refine j.m ?_;intro e w' h;obtain⟨v,rfl,hk⟩:=k e w' h;exact hk
theorem af2(s:Z2)(m):(((⟨s.toArray⟩:ByteArray).extract 0 m).data.map λb=>Value.int .u8 (b.toNat:Int)).toList=(s.take m).map gZ:=by
 have h:((⟨s.toArray⟩:ByteArray).extract 0 m).data.toList=s.take m:=by
  rw[ByteArray.data_extract];simp
 rw[Array.toList_map,h];rfl
theorem afS{P:Program}(w d e ty elem g o a f)(s:Z2)(cur t)(hu:P.underlying d=some (.slice elem))(hs:(P.info? elem).map (·.size)=some 1)(hg:w.heap[g]?=some (.cells cur.toArray t (0,0)))(h:o+(s.take a).length<=cur.length):
  (Builtin.copy_ #[d,e] ty #[.slice (some (E g o)) a f,.string ⟨s.toArray⟩]).run P w=.ok (goInt ((s.take a).length:Nat)) (w.setRow g (splice cur o ((s.take a).map gZ)).toArray):=by
 have hm:Nat.min (ByteArray.mk s.toArray).size a=(s.take a).length:=by
  rw[List.length_take];show min _ _=_;have:(ByteArray.mk s.toArray).size=s.length:=by simp[ByteArray.size]
  rw[this];omega
 have j:(s.take (s.take a).length)=s.take a:=by
  rw[List.length_take];apply List.take_eq_take_iff.2;omega
 have b:(sizeOf elem).run P w=.ok 1 w:=by
  cases c:P.info? elem with
  |none=>simp[c] at hs
  |some i=>simp[c] at hs;simp[sizeOf,typeInfo,c,hs]
 have k:((s.take (s.take a).length).map gZ)=(s.take a).map gZ:=by rw[j]
 simp only[Builtin.copy_,List.getElem?_toArray,List.getElem?_cons_zero,List.getElem?_cons_succ,Sem.run_bind,run_underlying hu,Result.andThen,Builtin.lenOf,Sem.run_pure,Builtin.firstCells,b,hm];rw[af2,k,run_storeCells_at P g o t ((s.take a).map gZ) 0 cur.toArray w hg (by simpa using h) (Xa _)];simp only[splice,List.append_assoc,Nat.add_zero,List.length_map]
theorem af4{P:Program}{ops:Array Oper}{o:Oper}{a:Act}{w:Z0}{K:Act->World->Prop}{Q:Exit->Act->World->Prop}{l:Prop}(m:o.guard=none)(d x e i)(n:o.op=.call {callee:=.builtin .copy,args:=#[d,x],argTypes:=#[e,i]})(elem)(hu:P.underlying e=some (.slice elem))(p:(P.info? elem).map (·.size)=some 1)(g off b j)(s:Z2)(q:a.eval d=.slice (some (E g off)) b j)(hs:a.eval x=.string ⟨s.toArray⟩)(cur t)(hg:w.heap[g]?=some (.cells cur.toArray t (0,0)))(r:off+(s.take b).length<=cur.length)(c)(u:(s.take b).length=c)(R:World->Prop)(k:R (w.setRow g (splice cur off ((s.take b).map gZ)).toArray))(h:∀w',R w'->K (a.put o.dst (goInt c)) w'):
  if Region.wanted o (yielded ops a.tmps)=true then Oper.wp P o a w K Q else l:=by
 have hw:Region.wanted o (yielded ops a.tmps)=true:=by simp[Region.wanted,m]
 rw[if_pos hw];have f:=afS (P:=P) w e i o.type elem g off b j s cur t hu p hg r;rw[u] at f;generalize w.setRow g (splice cur off ((s.take b).map gZ)).toArray=w2 at f k;unfold Oper.wp;simp[execOp,n,resolve,invoke,builtin,q,hs,f,Result.andThen];exact h _ k
end Go.Vx
namespace Go.Proofs.YtdjlkahbpdoemaaGreatDoor
theorem Mc:(prog.info? 5).map (·.size)=some 1:=Zx
theorem fy.put{U:Z1}{w:Z0}{r bp n:Nat}{q:Nat->Option Nat}{f:Nat->UInt8}(h:fy U w r bp n q f){p b:Nat}(hp:p<n)(a:q p=some b)(o t)(ht:o+t.length<=4096):
  fy U (w.setRow b (jf (cQ f (4096*p+o) t) (4096*p) 4096).toArray) r bp n q (cQ f (4096*p+o) t)/\Zn U w (w.setRow b (jf (cQ f (4096*p+o) t) (4096*p) 4096).toArray):=by
 have hn:∀k x,w.heap[k]?=some x->k≠b->(w.setRow b (jf (cQ f (4096*p+o) t) (4096*p) 4096).toArray).heap[k]?=some x:=λk x hk d=>by
  rwa[setRow_other w b k _ d]
 have d:=h.WE hp a;refine⟨⟨h.pos,h.top,hn _ _ h.m d.1.symm,hn _ _ h.p d.2.symm,?_,?_,h.inj,h.um,h.up,h.ug,?_⟩,(H.refl _ w).setRow (Or.inl (h.ug p b hp a)) _⟩
 ·intro i hi m j s;have g:i≠p:=λe=>by rw[e,a] at m;cases m
  rw[<-h.nil i hi m j s];unfold cQ;rw[if_neg];omega
 ·intro i hi c l;by_cases g:i=p
  ·subst g;obtain rfl:b=c:=by rw[a] at l;simpa using l
   exact setRow_heap w b _ _ _ _ (h.pg i hi b a)
  have u:c≠b:=λe=>g (h.inj i p b hi hp (by rw[l,e]) a);rw[ag6 f (4096*i) 4096 (4096*p+o) t (by rcases Nat.lt_or_gt_of_ne g with h1|h1<;>omega)];exact hn _ _ (h.pg i hi c l) u
 intro k hk;have:=h.low k hk;simp[World.setRow];omega
theorem ahU(b o:Nat)(f:o<4096)(w):(Instr.sliceAt 338 (M b) (some (O (o:Int))) none none).run prog w=.ok (.slice (some (E b o)) (4096 - o) (4096 - o)) w:=by
 have d:¬4096=o:=Z;have c:prog.arrayLen 338=4096:=Zx;have he:prog.elem 338=5:=Zx;have hu:prog.underlying 338=some (.array (prog.arrayLen 338) (prog.elem 338)):=Zx;have e:(sizeOf 5).run prog w=.ok 1 w:=by
  have:=Mc;cases a:prog.info? 5 with
  |none=>rw[a] at this;simp at this
  |some i=>rw[a] at this;simp at this;simp[sizeOf,typeInfo,a,this]
 rw[run_sliceAt_array_l w 338 (E b 0) hu .i64 (o:Int) Z (by rw[c];omega),he,e,c];simp[slicedAt,d,Addr.add];omega
theorem af1(p)(s:Z2)(hp:p=⟨s.toArray⟩)(k)(hk:k<=s.length)(w):(Instr.slice 9 (.string p) (some (O (k:Int))) none none).run prog w=.ok (.string ⟨(s.drop k).toArray⟩) w:=by
 subst hp;have hs:(ByteArray.mk s.toArray).size=s.length:=by simp[ByteArray.size]
 rw[run_slice_string_l w 9 _ underlying9 .i64 (k:Int) Z Z];simp only[Int.toNat_natCast];have:(ByteArray.mk s.toArray).extract k (ByteArray.mk s.toArray).size=⟨(s.drop k).toArray⟩:=by
  rw[hs];apply ByteArray.ext;rw[ByteArray.data_extract];apply Array.ext';simp;exact List.take_of_length_le (by simp)
 rw[this]
theorem acW{U:Z1}{w:Z0}{b n:Nat}{f:Nat->UInt8}(h:cP U w b n f)(a)(s:Z2)(hi:rB n a (s.length:Nat)=false):
  Zk 87 #[M b,O a,.string ⟨s.toArray⟩] w λe w'=>Zr e (O 1)/\w'=w:=by
 have⟨p,hp⟩:=Ze (⟨s.toArray⟩:ByteArray);rw[<-hp];have d:p.size=s.length:=by rw[hp];simp[ByteArray.size]
 have c:Hid (Zk 130 #[M b,O a,O (s.length:Nat)] w λe w'=>Zr e (.bool false)/\w'=w):=by
  refine(M7 h a (s.length:Nat)).m ?_;rintro e w' ⟨rfl,rfl⟩;rw[hi];exact⟨rfl,rfl⟩
 go_enter func87,ntmps87;go_wp2_with fail;refine c.j.m ?_;rintro e w' ⟨rfl,rfl⟩;go_wp2_with fail;all_goals
  go_ret;exact⟨rfl,rfl⟩
def CD(U:Z1)(w:Z0)(bm bp n:Nat)(f:Nat->UInt8)(at':Nat)(s:Z2)(k:Nat)(wr:Z0):Prop:=(∃q,fy U wr bm bp n q (cQ f at' (s.take k)))/\Zn U w wr
theorem CD.drew{U:Z1}{w:Z0}{a bp n:Nat}{f:Nat->UInt8}{at':Nat}{s:Z2}{k:Nat}{wr:Z0}(h:CD U w a bp n f at' s k wr):CD U w a bp n f at' s k wr.drew:=by
 have⟨⟨q,hm⟩,b⟩:=h;exact⟨⟨q,hm.only ((H.refl (λ_=>False) wr).drew) (λ_ h _=>h.elim)⟩,b.drew⟩
theorem ad2{U:Z1}{w wr:Z0}{a bp n:Nat}{f:Nat->UInt8}{at':Nat}{s:Z2}{k:Nat}(h:CD U w a bp n f at' s k wr)(hk:k<s.length)(u:at'+s.length<=4096*n)(p o)(i:at'+k=4096*p+o)(v:o<4096):
  Zk 132 #[M a,O (p:Int)] wr λe w2=>∃(b:Nat) (cur:List Value),Zr e (M b)/\Hid (w2.heap[b]?=some (.cells cur.toArray 338 (0,0))/\cur.length=4096/\
   CD U w a bp n f at' s (k+((s.drop k).take (4096 - o)).length) (w2.setRow b (splice cur o (((s.drop k).take (4096 - o)).map gZ)).toArray)):=by
 have⟨⟨q,hm⟩,j⟩:=h;have hp:p<n:=Z;refine(XO hm p hp).m ?_;rintro e w2 ⟨b,l,rfl,c,d,m⟩;refine⟨b,jf (cQ f at' (s.take k)) (4096*p) 4096,rfl,c.pg p hp b d,DM _ _ _,?_⟩;have g:o+((s.drop k).take (4096 - o)).length<=4096:=by rw[List.length_take];omega
 rw[PM _ _ _ _ _ g];have⟨h1,r⟩:=c.put hp d o ((s.drop k).take (4096 - o)) g;refine⟨⟨l,?_⟩,(j.trans m).trans r⟩;have e:=WA f at' k (4096 - o) s Z;rw[i] at e;rw[e] at h1;rw[e];have t:s.take (k+((s.drop k).take (4096 - o)).length)=s.take (k+(4096 - o)):=by
  apply List.take_eq_take_iff.2;rw[List.length_take,List.length_drop];omega
 rwa[t]
theorem acV{U:Z1}{w:Z0}{a bp n:Nat}{q:Nat->Option Nat}{f:Nat->UInt8}(h:fy U w a bp n q f)(at' s)(v:at'+s.length<=4096*n):
  Zk 87 #[M a,O (at':Int),.string ⟨s.toArray⟩] w λe w'=>Zr e (O 0)/\cP U w' a n (cQ f at' s)/\Zn U w w':=by
 have⟨p,hp⟩:=Ze (⟨s.toArray⟩:ByteArray);rw[<-hp];have S:p.size=s.length:=by rw[hp];simp[ByteArray.size]
 have hn:=h.top;have A:Hid (Zk 130 #[M a,O (at':Int),O (s.length:Nat)] w λe w'=>Zr e (.bool true)/\w'=w):=by
  refine(M7 ⟨bp,q,h⟩ (at':Int) (s.length:Nat)).m ?_;rintro e w' ⟨rfl,rfl⟩;have:rB n (at':Int) (s.length:Nat)=true:=by simp[rB];omega
  rw[this];exact⟨rfl,rfl⟩
 have B:=Y hp;have j:Hid (at'+s.length<=4096*n/\n<=256):=⟨v,hn⟩;have C:Hid (CD U w a bp n f at' s 0 w):=⟨⟨q,by rw[List.take_zero,WB];exact h⟩,H.refl _ _⟩;clear h hp v hn;go_enter func87,ntmps87;go_wp2_with fail;refine A.j.e1 ?_;go_wp2;go_loopw [7] (λd wr=>∃k:Nat,d=O (k:Int)/\k<=s.length/\Hid (CD U w a bp n f at' s k wr)) (λd _=>s.length - (RowKit.intOf d).toNat)
 case atStart=>exact⟨0,rfl,Z,C⟩
 case round=>
  obtain⟨k,rfl,hk,y⟩:=hrel;by_cases r:k<s.length
  ·have h1:(k:Int)<(s.length:Int):=Z;have D:IntKind.i64.wrap ((at':Int)+(k:Int))=((at'+k:Nat):Int):=by have:=j.j;rw[IntKind.wrap_i64];omega
   have l:=Y (λi=>PL (at'+k) (by have:=j.j;omega) i);have g:Hid (at'+k=4096*((at'+k)/4096)+(at'+k) % 4096/\(at'+k) % 4096<4096):=⟨Z,Z⟩;generalize (at'+k)/4096=pg at l g;generalize (at'+k) % 4096=o at l g;generalize T:at'+k=x at D l;have z:=Y (ad2 y.j.drew r j.j.1 pg o g.j.1 g.j.2);have F:=λb i=>ahU b o g.j.2 i
   have G:=λi=>af1 p s B.j k hk i
   generalize m:((s.drop k).take (4096 - o)).length=c at z;have V:0<c:=by rw[<-m,List.length_take,List.length_drop];have:=g.j.2;omega
   have K:k+c<=s.length:=by rw[<-m,List.length_take,List.length_drop];omega
   have t:Hid (((s.drop k).take (4096 - o)).length=c):=m;have W:IntKind.i64.wrap ((k:Int)+(c:Int))=((k+c:Nat):Int):=by have:=j.j;rw[IntKind.wrap_i64];omega
   clear r m hk;go_wp2_with fail;refine(l.j _).e1 ?_;go_wp2_with fail
   go_region_law (first|(refine af4 rfl (.tmp 33) (.tmp 36) 128 9 rfl 5 underlying128 Mc b o (4096 - o) (4096 - o) (s.drop k) (by simp[Act.eval,Act.put]) (by simp[Act.eval,Act.put]) cur 338 u.j.1 (by rw[u.j.2.1,t.j];have:=t.j;rw[List.length_take] at this;omega) c t.j (λN=>Hid (CD U w a bp n f at' s (k+c) N)) u.j.2.2 ?_;intro w3 P)|(refine VC rfl 132 #[.tmp 28,.tmp 29] #[91,3] rfl #[M a,O pg] (by simp[Act.eval,Act.put]) (by simp[go_sem]) z.j ?_;rintro e w2 ⟨b,cur,rfl,u⟩;refine⟨_,rfl,?_⟩))
   all_goals
    go_wp2
    go_roundw
    case rel=>exact⟨_,_,_,_,_,_,_,_,_,_,_,_,_,_,_,_,_,_,_,_,_,_,_,_,_,_,⟨k+c,rfl,K,P⟩,rfl⟩
    case measure=>show s.length - (RowKit.intOf (O ((k:Int)+(c:Int)))).toNat<s.length - (RowKit.intOf (O (k:Int))).toNat;simp only[RowKit.intOf];omega
  obtain rfl:k=s.length:=Z;have h1:¬(s.length:Int)<(s.length:Int):=Z;clear r;go_wp2_with fail
  all_goals
   go_ret;obtain⟨⟨Q,hm⟩,R⟩:=y.j;rw[List.take_length] at hm;exact⟨rfl,⟨bp,Q,hm⟩,R⟩
end Go.Proofs.YtdjlkahbpdoemaaGreatDoor
namespace Go.Vx
def bM(f:Nat->UInt8)(a:Nat):Nat:=(f a).toNat+256*(f (a+1)).toNat+65536*(f (a+2)).toNat+16777216*(f (a+3)).toNat
def ru(f:Nat->UInt8)(a:Nat):Nat->Nat
 |0=>0
 |1=>(f a).toNat
 |2=>(f a).toNat+256*(f (a+1)).toNat
 |3=>(f a).toNat+256*(f (a+1)).toNat+65536*(f (a+2)).toNat
 |_=>bM f a
theorem LN(f a):bM f a<4294967296:=by
 have b:=(f a).toNat_lt;have h1:=(f (a+1)).toNat_lt;have c:=(f (a+2)).toNat_lt;have d:=(f (a+3)).toNat_lt;unfold bM;omega
end Go.Vx
namespace Go.Proofs.YtdjlkahbpdoemaaGreatDoor
theorem Qu{U:Z1}{w:Z0}{a n:Nat}{f:Nat->UInt8}(h:cP U w a n f):
  Zk 326 #[M a] w λe w'=>Zr e (O (n:Int))/\w'=w:=by
 have⟨bp,q,h⟩:=h;have b:=h.cm;go_enter func326,ntmps326;go_wp2;all_goals
  go_ret;exact⟨rfl,rfl⟩
theorem WV(b o:Nat)(g:o+4<=4096)(w):
  Zk 294 #[M b,O (o:Int)] w λe w'=>Zr e (.slice (some (E b o)) 4 4)/\w'=w:=by
 have h:(Instr.sliceAt 338 (M b) (some (O (o:Int))) (some (O ((o:Int)+4))) (some (O ((o:Int)+4)))).run prog w=.ok (.slice (some (E b o)) 4 4) w:=by
  have c:prog.arrayLen 338=4096:=Zx;have he:prog.elem 338=5:=Zx;have hu:prog.underlying 338=some (.array (prog.arrayLen 338) (prog.elem 338)):=Zx;have d:(sizeOf 5).run prog w=.ok 1 w:=by
   have:=Mc;cases a:prog.info? 5 with
   |none=>rw[a] at this;simp at this
   |some i=>rw[a] at this;simp at this;simp[sizeOf,typeInfo,a,this]
  rw[run_sliceAt_array_lhm w 338 (E b 0) hu .i64 .i64 .i64 (o:Int) ((o:Int)+4) ((o:Int)+4) Z Z Z (by rw[c];omega),he,d];have e1:((o:Int)+4).toNat=o+4:=Z;have f:¬o+4=o:=Z;simp only[Result.andThen,slicedAt,e1,Int.toNat_natCast,if_neg f,Nat.mul_one,addr_add];rw[show 0+o=o from Z,show o+4 - o=4 from Z]
 have j:=Zh ((o:Int)+4) Z;go_enter func294,ntmps294;go_wp2;all_goals
  go_ret;exact⟨rfl,rfl⟩
end Go.Proofs.YtdjlkahbpdoemaaGreatDoor
namespace Go.Vx
theorem LU(i a x y)(b:a=((2^i:Nat):Int))(hi:2^i<=4294967296)(h:0<=x/\x<4294967296/\x % a=0/\0<=y/\y<a):bits .or .u32 y x=y+x:=by
 have e:=Ba i a x y b hi h;have⟨c,h1,f,hy,g⟩:=h;have d:a<=4294967296:=by subst b;omega
 rw[u32_or x y c h1 hy Z,Nat.or_comm] at e;rw[u32_or y x hy Z c h1,e];omega
end Go.Vx
namespace Go.Proofs.YtdjlkahbpdoemaaGreatDoor
theorem LL{U:Z1}{w:Z0}{g n:Nat}{f:Nat->UInt8}(h:cP U w g n f)(a)(A:a % 4=0)(B:a+4<=4096*n):
  Zk 227 #[M g,O (a:Int)] w λe w'=>Zr e (.tuple #[J (bM f a:Nat),O 0])/\Zq w w':=by
 have hn:n<=256:=by obtain⟨bp,q,h⟩:=h;exact h.top
 have ht:(a:Int).tmod 4=0:=by rw[Int.tmod_eq_emod_of_nonneg Z];omega
 have C:Hid (Zk 130 #[M g,O (a:Int),O 4] w λe w'=>Zr e (.bool true)/\w'=w):=by
  refine(M7 h (a:Int) 4).m ?_;rintro e w' ⟨rfl,rfl⟩;have:rB n (a:Int) 4=true:=by simp[rB];omega
  rw[this];exact⟨rfl,rfl⟩
 have l:=Y (PL a Z);have s:a=4096*(a/4096)+a % 4096:=Z;have m:a % 4096+4<=4096:=Z;have t:a/4096<n:=Z;have u:=Y (afM h (a/4096) t);have x:=Y (λb D=>WV b (a % 4096) m D);have r:Hid (a=4096*(a/4096)+a % 4096/\a % 4096+4<=4096):=⟨s,m⟩;generalize a/4096=p at l u r;generalize a % 4096=o at l x r;clear h B hn A s m t;go_enter func227,ntmps227;go_wp2_with fail;refine C.j.e1 ?_;go_wp2_with fail;refine(l.j w).e1 ?_;go_wp2_with fail;refine u.j.m ?_;rintro e w1 ⟨b,rfl,y,z⟩;have F:=Y z;have d:∀j,j<4->w1.cell? (E b (o+j))=some (.int .u8 ((f (a+j)).toNat:Int)):=λj N=>by
  have⟨e1,P⟩:=r.j;rw[cell_of_row _ _ (o+j) _ _ (0,0) y];have:=Cr f (4096*p) 4096 (o+j) Z;rw[show 4096*p+(o+j)=a+j from Z] at this;simpa[gZ] using this
 have G:=d 0 I;have Q:=d 1 I;have R:=d 2 I;have S:=d 3 I;simp only[Nat.add_zero] at G;have T:Hid (∀k,ru f a k=ru f a k):=λ_=>rfl;have l0:=(f a).toNat_lt;have l1:=(f (a+1)).toNat_lt;have V:=(f (a+2)).toNat_lt;have W:=(f (a+3)).toNat_lt;have c:Hid (ru f a 1=(f a).toNat/\ru f a 2=(f a).toNat+256*(f (a+1)).toNat/\ru f a 3=(f a).toNat+256*(f (a+1)).toNat+65536*(f (a+2)).toNat/\bM f a=(f a).toNat+256*(f (a+1)).toNat+65536*(f (a+2)).toNat+16777216*(f (a+3)).toNat):=⟨rfl,rfl,rfl,rfl⟩;generalize (f a).toNat=c0 at*;generalize (f (a+1)).toNat=c1 at*;generalize (f (a+2)).toNat=c2 at*;generalize (f (a+3)).toNat=c3 at*;clear d y z;go_wp2_with fail;refine(x.j b w1).e1 ?_
 go_wp2
 go_loopw [8,31] (λv i wr=>∃k:Nat,i=O (k:Int)/\k<=4/\v=J (ru f a k:Nat)/\wr=w1) (λ_ i _=>4 - (RowKit.intOf i).toNat)
 case atStart=>exact⟨0,rfl,Z,rfl,rfl⟩
 case round=>
  obtain⟨k,rfl,hk,rfl,rfl⟩:=hrel;have K:k=0\/k=1\/k=2\/k=3\/k=4:=Z;rcases K with rfl|rfl|rfl|rfl|rfl
  ·have hb:bits .or .u32 ((ru f a 0:Nat):Int) (c0:Int)=((ru f a 1:Nat):Int):=by
    rw[c.j.1];show bits .or .u32 (0:Int) (c0:Int)=_;rw[LU 0 1 (c0:Int) 0 rfl I Z];omega
   go_wp2_with fail;exact⟨⟨1,rfl,Z,rfl,trivial⟩,by simp[RowKit.intOf]⟩
  ·have hb:bits .or .u32 ((ru f a 1:Nat):Int) ((c1:Int)*256)=((ru f a 2:Nat):Int):=by
    rw[c.j.1,c.j.2.1,LU 8 256 ((c1:Int)*256) (c0:Int) rfl I Z];omega
   go_wp2_with fail;exact⟨⟨2,rfl,Z,rfl,trivial⟩,by simp[RowKit.intOf]⟩
  ·have hb:bits .or .u32 ((ru f a 2:Nat):Int) ((c2:Int)*65536)=((ru f a 3:Nat):Int):=by
    rw[c.j.2.1,c.j.2.2.1,LU 16 65536 ((c2:Int)*65536) ((c0+256*c1:Nat):Int) rfl I Z];omega
   go_wp2_with fail;exact⟨⟨3,rfl,Z,rfl,trivial⟩,by simp[RowKit.intOf]⟩
  ·have hb:bits .or .u32 ((ru f a 3:Nat):Int) ((c3:Int)*16777216)=((ru f a 4:Nat):Int):=by
    show _=((bM f a:Nat):Int)
    rw[c.j.2.2.1,c.j.2.2.2,LU 24 16777216 ((c3:Int)*16777216) ((c0+256*c1+65536*c2:Nat):Int) rfl I Z];omega
   go_wp2_with fail;exact⟨⟨4,rfl,Z,rfl,trivial⟩,by simp[RowKit.intOf]⟩
  go_wp2_with fail
  all_goals
   go_ret2;exact⟨rfl,F.j⟩
end Go.Proofs.YtdjlkahbpdoemaaGreatDoor
namespace Go.Vx
theorem Oa(m):(UInt8.ofNat (m % 256)).toNat=m % 256:=by rw[UInt8.toNat_ofNat'];omega
theorem afz(f o n k v)(h:k<n):(jf f o n).set k (gZ v)=jf (cQ f (o+k) [v]) o n:=by
 rw[<-PM f o n k [v] (by simp only[List.length_cons,List.length_nil];omega)];unfold splice;rw[List.set_eq_take_append_cons_drop,if_pos (by rw[DM];exact h)];rfl
theorem ah7(f a k)(s:Z2)(h:k<s.length):cQ (cQ f a (s.take k)) (a+k) [s[k]]=cQ f a (s.take (k+1)):=by
 rw[<-WA f a k 1 s Z];congr 1;rw[List.drop_eq_getElem_cons h];rfl
end Go.Vx
namespace Go.Proofs.YtdjlkahbpdoemaaGreatDoor
theorem fy.afC{U:Z1}{w:Z0}{a bp n:Nat}{q:Nat->Option Nat}{f:Nat->UInt8}(h:fy U w a bp n q f){p b:Nat}(hp:p<n)(c:q p=some b)(o v)(d:o<4096):
  fy U (w.setCell (E b o) (gZ v)) a bp n q (cQ f (4096*p+o) [v])/\Zn U w (w.setCell (E b o) (gZ v)):=by
 have e:w.setCell (E b o) (gZ v)=w.setRow b (jf (cQ f (4096*p+o) [v]) (4096*p) 4096).toArray:=by
  rw[setCell_eq_setRow w b o _ _ _ _ (h.pg p hp b c),<-afz f (4096*p) 4096 o v d];simp
 rw[e];exact h.put hp c o [v] (by simp only[List.length_cons,List.length_nil];omega)
theorem fy.fz{U:Z1}{w:Z0}{a bp n:Nat}{q:Nat->Option Nat}{f:Nat->UInt8}(h:fy U w a bp n q f){i b:Nat}(hi:i<n)(c:q i=some b)(j):w.frozen? (E b j)=false:=by
 simp[World.frozen?,h.pg i hi b c]
def CF(U:Z1)(w:Z0)(bm bp n:Nat)(f:Nat->UInt8)(a p b:Nat)(s:Z2)(k:Nat)(wr:Z0):Prop:=(∃q,fy U wr bm bp n q (cQ f a (s.take k))/\q p=some b)/\Zn U w wr
theorem aeR{U:Z1}{w wr:Z0}{d bp n:Nat}{f:Nat->UInt8}{a p b o:Nat}{s:Z2}{k:Nat}(h:CF U w d bp n f a p b s k wr)(hk:k<s.length)(hp:p<n)(l:a=4096*p+o)(g:o+k<4096):
  (∃v,wr.cell? (E b (o+k))=some v)/\wr.frozen? (E b (o+k))=false/\CF U w d bp n f a p b s (k+1) (wr.setCell (E b (o+k)) (gZ s[k])):=by
 have⟨⟨q,hm,c⟩,i⟩:=h;have⟨h1,j⟩:=hm.afC hp c (o+k) s[k] g;refine⟨⟨_,hm.cg hp c g⟩,hm.fz hp c _,⟨q,?_,c⟩,i.trans j⟩;have e:4096*p+(o+k)=a+k:=Z;rwa[e,ah7 f a k s hk] at h1
theorem afB{U:Z1}{w:Z0}{d bp n:Nat}{q:Nat->Option Nat}{f:Nat->UInt8}(h:fy U w d bp n q f)(a x:Nat)(y:x<4294967296)(S:a % 4=0)(T:a+4<=4096*n):
  Zk 327 #[M d,O (a:Int),J (x:Int)] w λe w'=>Zr e (O 0)/\(∃m,fy U w' d bp n m (cQ f a (eI x)))/\Zn U w w':=by
 have hn:=h.top;have ht:(a:Int).tmod 4=0:=by rw[Int.tmod_eq_emod_of_nonneg Z];omega
 have V:Hid (Zk 130 #[M d,O (a:Int),O 4] w λe w'=>Zr e (.bool true)/\w'=w):=by
  refine(M7 ⟨bp,q,h⟩ (a:Int) 4).m ?_;rintro e w' ⟨rfl,rfl⟩;have:rB n (a:Int) 4=true:=by simp[rB];omega
  rw[this];exact⟨rfl,rfl⟩
 have r:=Y (PL a Z);have z:a=4096*(a/4096)+a % 4096:=Z;have s:a % 4096+4<=4096:=Z;have t:a/4096<n:=Z;have A:=Y (XO h (a/4096) t);have B:=Y (λb W=>WV b (a % 4096) s W);have l:Hid (a=4096*(a/4096)+a % 4096/\a % 4096+4<=4096/\a/4096<n):=⟨z,s,t⟩;generalize a/4096=p at r A l;generalize a % 4096=o at r B l;have HX:=Y y;have X:Hid ((eI x).length=4):=rfl;have⟨c0,C⟩:∃c,c=x % 256:=⟨_,rfl⟩;have⟨c1,e1⟩:∃c,c=x/256 % 256:=⟨_,rfl⟩;have⟨c2,D⟩:∃c,c=x/65536 % 256:=⟨_,rfl⟩;have⟨c3,F⟩:∃c,c=x/16777216 % 256:=⟨_,rfl⟩;have v0:(x:Int) % 256=(c0:Int):=Z;have v1:(x:Int)/256 % 256=(c1:Int):=Z;have v2:(x:Int)/65536 % 256=(c2:Int):=Z;have v3:(x:Int)/16777216 % 256=(c3:Int):=Z;have u:Hid (gZ ((eI x)[0]'(show 0<4 from I))=.int .u8 (c0:Int)):=by show Value.int .u8 ((UInt8.ofNat (x % 256)).toNat:Int)=_;rw[Oa,<-C]
 have wo:Hid (gZ ((eI x)[1]'(show 1<4 from I))=.int .u8 (c1:Int)):=by show Value.int .u8 ((UInt8.ofNat (x/256 % 256)).toNat:Int)=_;rw[Oa,<-e1]
 have qX:Hid (gZ ((eI x)[2]'(show 2<4 from I))=.int .u8 (c2:Int)):=by show Value.int .u8 ((UInt8.ofNat (x/65536 % 256)).toNat:Int)=_;rw[Oa,<-D]
 have OT:Hid (gZ ((eI x)[3]'(show 3<4 from I))=.int .u8 (c3:Int)):=by show Value.int .u8 ((UInt8.ofNat (x/16777216 % 256)).toNat:Int)=_;rw[Oa,<-F]
 clear C e1 D F;clear h T hn S z s t y;go_enter func327,ntmps327;go_wp2_with fail;refine V.j.e1 ?_;go_wp2_with fail;refine(r.j w).e1 ?_;go_wp2_with fail;refine A.j.m ?_;rintro e w1 ⟨b,m,rfl,G,K,N⟩;have H0:Hid (CF U w d bp n f a p b (eI x) 0 w1):=⟨⟨m,by rw[List.take_zero,WB];exact G,K⟩,N⟩
 clear G K N;go_wp2_with fail;refine(B.j b w1).e1 ?_
 go_wp2
 go_loopw [32] (λi wr=>∃k:Nat,i=O (k:Int)/\k<=4/\Hid (CF U w d bp n f a p b (eI x) k wr)) (λi _=>4 - (RowKit.intOf i).toNat)
 case atStart=>exact⟨0,rfl,Z,H0⟩
 case round=>
  obtain⟨k,rfl,hk,P⟩:=hrel;by_cases Q:k<4
  ·obtain⟨⟨v,R⟩,hf,hs⟩:=aeR P.j (show k<(eI x).length from Q) l.j.2.2 l.j.1 (by have:=l.j.2.1;omega);have g:=Y hs;clear hs;have cZ:k=0\/k=1\/k=2\/k=3:=Z;rcases cZ with rfl|rfl|rfl|rfl
   ·have j:Hid (CF U w d bp n f a p b (eI x) 1 (wr.setCell (E b o) (.int .u8 (c0:Int)))):=by rw[<-u.j];exact g.j
    have JB:wr.cell? (E b o)=some v:=R;have aa:wr.frozen? (E b o)=false:=hf;clear g R hf v1 v2 v3;go_wp2_with fail;exact⟨⟨1,rfl,Z,j⟩,by simp[RowKit.intOf]⟩
   ·have j:Hid (CF U w d bp n f a p b (eI x) 2 (wr.setCell (E b (o+1)) (.int .u8 (c1:Int)))):=by rw[<-wo.j];exact g.j
    clear g v0 v2 v3;go_wp2_with fail;exact⟨⟨2,rfl,Z,j⟩,by simp[RowKit.intOf]⟩
   ·have j:Hid (CF U w d bp n f a p b (eI x) 3 (wr.setCell (E b (o+2)) (.int .u8 (c2:Int)))):=by rw[<-qX.j];exact g.j
    clear g v0 v1 v3;go_wp2_with fail;exact⟨⟨3,rfl,Z,j⟩,by simp[RowKit.intOf]⟩
   have j:Hid (CF U w d bp n f a p b (eI x) 4 (wr.setCell (E b (o+3)) (.int .u8 (c3:Int)))):=by rw[<-OT.j];exact g.j
   clear g v0 v1 v2;go_wp2_with fail;exact⟨⟨4,rfl,Z,j⟩,by simp[RowKit.intOf]⟩
  obtain rfl:k=4:=Z;clear Q;go_wp2_with fail
  all_goals
   go_ret;obtain⟨⟨q2,h1,_⟩,h2⟩:=P.j;exact⟨rfl,⟨q2,h1⟩,h2⟩
def hasB(n:Nat)(p:Int):Bool:=decide (0<=p)&&decide (p<(n:Int))
theorem aap{U:Z1}{w:Z0}{b n:Nat}{f:Nat->UInt8}(h:cP U w b n f)(p):
  Zk 221 #[M b,O p] w λe w'=>Zr e (.bool (hasB n p))/\w'=w:=by
 have⟨bp,q,h⟩:=h;have d:=h.cm;by_cases c:0<=p
 ·have d0:decide (0<=p)=true:=decide_eq_true c;have a:Hid (hasB n p=decide (p<(n:Int))):=by show hasB n p=_;unfold hasB;rw[d0];rfl
  go_enter func221,ntmps221;go_wp2_with fail;all_goals
   go_ret;rw[a.j];refine⟨?_,rfl⟩;first|rfl|simp
 have d0:decide (0<=p)=false:=decide_eq_false c;have a:Hid (hasB n p=false):=by show hasB n p=_;unfold hasB;rw[d0];rfl
 go_enter func221,ntmps221;go_wp2_with fail;all_goals
  go_ret;rw[a.j];exact⟨rfl,rfl⟩
def yn(f:Nat->UInt8)(p:Nat):Nat->UInt8:=λx=>if 4096*p<=x/\x<4096*p+4096 then 0 else f x
def sV(N:Nat):Z2:=List.replicate N 0
theorem MF(N):(sV N).length=N:=by simp[sV]
theorem ach(f p N)(hN:N=4096):cQ f (4096*p+0) (sV N)=yn f p:=by
 funext x;unfold cQ yn;rw[MF,Nat.add_zero];subst hN;by_cases h:4096*p<=x/\x<4096*p+4096
 ·rw[if_pos h,if_pos h,sV,List.getD_eq_getElem?_getD,List.getElem?_replicate,if_pos Z];rfl
 rw[if_neg h,if_neg h]
theorem aci(f p)(h:∀j,j<4096->f (4096*p+j)=0):yn f p=f:=by
 funext x;unfold yn;split
 ·rename_i a;have:=h (x - 4096*p) Z;rw[show 4096*p+(x - 4096*p)=x from Z] at this;exact this.symm
 rfl
theorem ahV(b w):(Instr.sliceAt 338 (M b) none none none).run prog w=.ok (Zs b 4096 4096) w:=by
 have c:prog.arrayLen 338=4096:=Zx;have he:prog.elem 338=5:=Zx;have hu:prog.underlying 338=some (.array (prog.arrayLen 338) (prog.elem 338)):=Zx;have d:(sizeOf 5).run prog w=.ok 1 w:=by
  have:=Mc;cases a:prog.info? 5 with
  |none=>rw[a] at this;simp at this
  |some i=>rw[a] at this;simp at this;simp[sizeOf,typeInfo,a,this]
 rw[run_sliceAt_array_all w 338 (E b 0) hu,he,d,c];rfl
theorem acf(w):(zeroValue 5).run prog w=.ok (.int .u8 0) w:=by
 have hi:=alI;cases a:prog.info? 5 with
 |none=>rw[a] at hi;simp at hi
 |some i=>
  rw[a] at hi;simp only[Option.map_some,Option.some.injEq,Prod.mk.injEq] at hi;simp[zeroValue,typeInfo,a,hi.1]
theorem ace(N):(Builtin.zeroCells #[Value.int .u8 0] N).toList=(sV N).map gZ:=by
 apply List.ext_getElem?;intro j;unfold Builtin.zeroCells sV;by_cases a:j<N
 ·simp[a,Nat.mod_one,gZ]
 simp[a]
theorem afT(w b N)(hN:0<N)(cur)(hg:w.heap[b]?=some (.cells cur.toArray 338 (0,0)))(c:cur.length=N)(ty):
  (Builtin.clear_ #[128] ty #[Zs b N N]).run prog w=.ok (.tuple #[]) (w.setRow b (splice cur 0 ((sV N).map gZ)).toArray):=by
 have d:=run_storeCells_at prog b 0 338 ((sV N).map gZ) 0 cur.toArray w hg (by rw[List.length_map,MF,List.size_toArray,c];omega) (Xa _);obtain⟨a,rfl⟩:∃a,N=a+1:=⟨N - 1,Z⟩;simp only[Builtin.clear_,List.getElem?_toArray,List.getElem?_cons_zero,Sem.run_bind,run_underlying underlying128,Result.andThen,acf,Value.cells];rw[ace,d];simp only[Sem.run_pure,splice,List.append_assoc,Nat.add_zero,List.length_map]
theorem ad5{w:Z0}{ops:Array Oper}{rest:List Oper}{o:Oper}{a:Act}{Q:Exit->Act->World->Prop}(e:o.guard=none)(x)(f:o.op=.call {callee:=.builtin .clear,args:=#[x],argTypes:=#[128]})(b N)(hN:0<N)(g:a.eval x=Zs b N N)(cur)(hg:w.heap[b]?=some (.cells cur.toArray 338 (0,0)))(i:cur.length=N)(R:World->Prop)(c:R (w.setRow b (splice cur 0 ((sV N).map gZ)).toArray))(h:∀w',R w'->wpList prog ops Q rest (a.put o.dst (.tuple #[])) w'):wpList prog ops Q (o::rest) a w:=by
 refine wpList_plain e λK j=>?_;have d:=afT w b N hN cur hg i o.type;generalize w.setRow b (splice cur 0 ((sV N).map gZ)).toArray=w2 at d c;unfold Oper.wp;simp[execOp,f,resolve,invoke,builtin,g,d,Result.andThen];exact j _ _ (h _ c)
theorem acd{U:Z1}{w:Z0}{a n:Nat}{f:Nat->UInt8}(h:cP U w a n f)(p)(hi:hasB n p=false):
  Zk 124 #[M a,O p] w λe w'=>Zr e (O 1)/\w'=w:=by
 have b:=Y (aap h p);rw[hi] at b;go_enter func124,ntmps124;go_wp2_with fail;refine b.j.m ?_;rintro e w' ⟨rfl,rfl⟩;go_wp2_with fail;all_goals
  go_ret;exact⟨rfl,rfl⟩
theorem acb{U:Z1}{w:Z0}{d bp n:Nat}{q:Nat->Option Nat}{f:Nat->UInt8}(h:fy U w d bp n q f)(p)(hp:p<n):
  Zk 124 #[M d,O (p:Int)] w λe w'=>Zr e (O 0)/\fy U w' d bp n q (yn f p)/\Zn U w w':=by
 have x:=h.cm;have c:=h.cp hp;have y:0<=(p:Int)/\(p:Int)<(n:Int):=Z;have i:=Y (aap ⟨bp,q,h⟩ (p:Int));have:hasB n (p:Int)=true:=by simp[hasB,hp]
 rw[this] at i;have g:=Y h;have z:=Y hp;cases a:q p with
 |none=>
  rw[a] at c;have r:w.cell? (E bp p)=some (.pointer none):=c;have j:=Y a;clear c a;go_enter func124,ntmps124;go_wp2_with fail;refine i.j.e1 ?_;go_wp2_with fail;all_goals
   go_ret;rw[aci f p (g.j.nil p hp j.j)];exact⟨rfl,g.j,H.refl _ w⟩
 |some b=>
  rw[a] at c;have r:w.cell? (E bp p)=some (M b):=c;have j:=Y a;have s:=λt=>ahV b t;have⟨N,hN⟩:=Ze (4096);have k:=Y (g.j.pg p hp b a);rw[<-hN] at s;have l:Hid (fy U (w.setRow b (splice (jf f (4096*p) 4096) 0 ((sV N).map gZ)).toArray) d bp n q (yn f p)/\Zn U w (w.setRow b (splice (jf f (4096*p) 4096) 0 ((sV N).map gZ)).toArray)):=by
   have:=g.j.put hp j.j 0 (sV N) (by rw[MF];omega);rw[PM f (4096*p) 4096 0 (sV N) (by rw[MF];omega)];rw[ach f p N hN] at this|-;exact this
  have m:Hid ((jf f (4096*p) 4096).length=N):=by show _=_;rw[DM,hN]
  have u:Hid (0<N):=by show 0<N;omega
  generalize jf f (4096*p) 4096=cur at k l m;clear c a hN;go_enter func124,ntmps124;go_wp2_with fail;refine i.j.e1 ?_;go_wp2_with (refine ad5 rfl (.tmp 25) rfl b N u.j (by simp[Act.eval]) cur k.j m.j (λo=>Hid (fy U o d bp n q (yn f p)/\Zn U w o)) l.j ?_;intro w3 v)
  all_goals
   go_ret;exact⟨rfl,v.j⟩
end Go.Proofs.YtdjlkahbpdoemaaGreatDoor
namespace Go.Vx
section
variable {P:Program}{ops:Array Oper}{Q Q':Exit->Act->World->Prop}{md:Region.Mode}
def oC(n:Nat)(o:Oper):Oper:={o with dst:=none,guard:=some (n,true)}
def jM(ops:Array Oper)(L:Nat)(o:Oper):Array Oper:=ops.setIfInBounds L (oC ops.size o)
theorem ad3{o:Oper}{a:Act}{w:Z0}{K:Act->World->Prop}(hp:∀c a w,Q' (.panic c) a w->Q (.panic c) a w)(b:∀a w,Q' .outgrown a w->Q .outgrown a w)(h:Oper.wp P o a w K Q'):Oper.wp P o a w K Q:=by
 have d:LetsOut Q'->LetsOut Q:=λ⟨a,w,h⟩=>⟨a,w,b a w h⟩;unfold Oper.wp at h|-;generalize (execOp a.eval o).run P w=r at h|-
 cases r with
 |ok n f=>
  cases n<;>simp only[Oper.upon] at h|-<;>first|exact h|skip
  all_goals
   refine Calls.mono h (λe g he=>?_);cases e with
   |returned u=>exact he
   |panicked c=>exact hp _ _ _ he
   |outgrown=>exact d he
 |halt x f=>
  cases x<;>simp only[Oper.upon] at h|-<;>first|exact h|exact hp _ _ _ h
theorem Qe{L:Nat}{a:Oper}(b:ops[L]?=some a)(listed):Region.ready md (jM ops L a) listed=Region.ready md ops listed:=by
 unfold Region.ready jM;rw[Array.size_setIfInBounds];congr 1;funext j;rw[Array.getElem?_setIfInBounds];by_cases h:L=j
 ·subst h;rw[if_pos rfl,if_pos ((Array.getElem?_eq_some_iff.1 b).1),b];rfl
 rw[if_neg h]
theorem aiu{L:Nat}{a:Oper}{j:Nat}(h:L≠j):(jM ops L a)[j]?=ops[j]?:=by
 unfold jM;rw[Array.getElem?_setIfInBounds,if_neg h]
theorem Wp(d:∀(j:Nat) (o:Oper),ops[j]?=some o->∀e∈o.after,e.on<j)(listed):∀(n L:Nat),L<=n->L<ops.size->listed.size=ops.size->listed.getD L true=false->Region.ready md ops listed≠[]:=by
 intro n;induction n using Nat.strongRecOn with
 |ind n f=>
  intro L g h i k;by_cases hr:L∈Region.ready md ops listed
  ·intro e;rw[e] at hr;cases hr
  rw[mem_ready] at hr;have b:=Array.getElem?_eq_getElem h;have hex:∃e∈ops[L].after,Region.binds md e=true/\¬listed.getD e.on false=true:=by
   apply Classical.byContradiction;intro l;refine hr ⟨k,ops[L],b,λe he hb=>?_⟩;apply Classical.byContradiction;intro m;exact l ⟨e,he,hb,m⟩
  have⟨e,he,_,c⟩:=hex;have p:=d L _ b e he;refine f e.on Z e.on (Nat.le_refl _) Z i ?_;have a:e.on<listed.size:=Z;simp only[Array.getD_eq_getD_getElem?,Array.getElem?_eq_getElem a,Option.getD_some] at c|-;simpa using c
def LG(md:Region.Mode)(ops:Array Oper)(listed:Array Bool):Prop:=∀(k:Nat) (o:Oper),ops[k]?=some o->listed.getD k false=true->∀e∈o.after,Region.binds md e=true->listed.getD e.on false=true
theorem LG.step{listed:Array Bool}(h:LG md ops listed){i:Nat}(hi:i∈Region.ready md ops listed):LG md ops (listed.setIfInBounds i true):=λk o b hk e he hb=>by
 by_cases c:i=k
 ·subst c;obtain⟨_,f,a,d⟩:=mem_ready.1 hi;rw[b] at a;injection a with a
  subst a;exact getD_set_true (d e he hb)
 rw[getD_set_ne false c] at hk;exact getD_set_true (h k o b hk e he hb)
theorem apy{L:Nat}{g:Oper}{listed:Array Bool}(p:ops[L]?=some g)(h:LG md ops listed)(hw:∀j,j<ops.size->j≠L->∃(k:Nat) (o:Oper),j<k/\ops[k]?=some o/\∃e∈o.after,Region.binds md e=true/\e.on=j)(hr:L∈Region.ready md ops listed):
  ∀(n j:Nat),ops.size - j<=n->j<ops.size->j≠L->listed.getD j false=true:=by
 intro n;induction n with
 |zero=>intro j h1 f _;omega
 |succ n i=>
  intro j h1 f l;have⟨k,o,q,d,e,he,hb,a⟩:=hw j f l;by_cases b:k=L
  ·subst b;have⟨_,r,c,m⟩:=mem_ready.1 hr;rw[d] at c;injection c with c
   subst c;have:=m e he hb;rwa[a] at this
  have:=h k o d (i k Z ((Array.getElem?_eq_some_iff.1 d).1) b) e he hb;rwa[a] at this
theorem ad6{L:Nat}{l:Oper}(g:ops[L]?=some l)(hg:l.guard=none)(S:∀(j:Nat) (o:Oper),ops[j]?=some o->o.guard=none)(B:∀(j:Nat) (o:Oper),ops[j]?=some o->∀e∈o.after,e.on<j)
  (hw:∀j,j<ops.size->j≠L->∃(k:Nat) (o:Oper),j<k/\ops[k]?=some o/\∃e∈o.after,Region.binds md e=true/\e.on=j)
  (hn:∀a w,Q' .normal a w->Oper.wp P l a w (Q .normal) Q) (hp:∀c a w,Q' (.panic c) a w->Q (.panic c) a w) (C:∀a w,Q' .outgrown a w->Q .outgrown a w):
  ∀(fuel:Nat) (listed:Array Bool) (a:Act) (w:Z0),listed.size=ops.size->LG md ops listed->listed.getD L true=false->wpAny P md (jM ops L l) Q' fuel listed a w->wpAny P md ops Q fuel listed a w:=by
 have t:=(Array.getElem?_eq_some_iff.1 g).1;have T:LetsOut Q'->LetsOut Q:=λ⟨a,w,h⟩=>⟨a,w,C a w h⟩;intro fuel;induction fuel with
 |zero=>
  intro listed a w p u q h;have h1:=h.1;rw[Qe g] at h1;exact absurd h1 (Wp B listed L L (Nat.le_refl _) t p q)
 |succ fuel U=>
  intro listed a w p u q h;have⟨V,h1⟩:=h;rw[Qe g] at V h1;refine⟨λe=>absurd e (Wp B listed L L (Nat.le_refl _) t p q),λi hi=>?_⟩;have b:=h1 i hi;by_cases v:L=i
  ·subst v
   have⟨_,d,D,NJ⟩:=mem_ready.1 hi;have W:d=l:=by rw[g] at D;injection D with h;exact h.symm
   subst W;have hr:Region.ready md ops (listed.setIfInBounds L true)=[]:=by
    rw[List.eq_nil_iff_forall_not_mem];intro j X;have⟨m,oj,x,_⟩:=mem_ready.1 X;have z:=(Array.getElem?_eq_some_iff.1 x).1;by_cases A:j=L
    ·subst A;have:j<listed.size:=Z;simp[this] at m
    have r:=apy g u hw hi (ops.size - j) j (Nat.le_refl _) z A;rw[getD_set_ne true (λe=>A e.symm)] at m;have:j<listed.size:=Z;simp[this] at r m;rw[r] at m;cases m
   have s:wpAny P md (jM ops L d) Q' fuel (listed.setIfInBounds L true) a w:=by
    have e:(jM ops L d)[L]?=some (oC ops.size d):=by
     unfold jM;rw[Array.getElem?_setIfInBounds,if_pos rfl,if_pos t]
    have n:Region.wanted (oC ops.size d) (yielded (jM ops L d) a.tmps)=false:=by
     unfold oC Region.wanted yielded;have:(jM ops L d)[ops.size]?=none:=by
      unfold jM;rw[Array.getElem?_eq_none];simp
     simp[this]
    unfold wpOp at b;rw[e] at b;simp only[n] at b;exact b
   have h4:Q' .normal a w:=by
    cases fuel with
    |zero=>exact s.2
    |succ f=>exact s.1 (by rw[Qe g];exact hr)
   unfold wpOp;rw[g];have n:Region.wanted d (yielded ops a.tmps)=true:=by unfold Region.wanted;rw[hg]
   simp only[n,if_true];refine Or.inl (Oper.wp_mono (λF G K=>?_) (hn a w h4));cases fuel with
   |zero=>exact⟨hr,K⟩
   |succ f=>exact⟨λ_=>K,by rw[hr];intro _ h;cases h⟩
  unfold wpOp at b|-;rw[aiu v] at b;obtain⟨_,N,R,_⟩:=mem_ready.1 hi;rw[R] at b|-;have n:∀y,Region.wanted N y=true:=λy=>by unfold Region.wanted;rw[S i N R]
  simp only[n,if_true] at b|-;refine b.imp (λs=>?_) (λ⟨ha,hb⟩=>⟨ha,T hb⟩);refine ad3 hp C (Oper.wp_mono (λF G r=>?_) s);exact U _ F G (by rw[Array.size_setIfInBounds];exact p) (u.step hi) (by rw[getD_set_ne true (λe=>v e.symm)];exact q) r
def Q0(md:Region.Mode)(ops:Array Oper)(L:Nat):Bool:=
 (List.range ops.size).all λj=>match ops[j]?,ops[L]? with
  |some o,some oL=>o.guard.isNone&&o.after.all (λe=>decide (e.on<j))&&(j==L || (List.range ops.size).any λk=>decide (j<k)&&match ops[k]? with|some ok=>ok.after.any (λe=>Region.binds md e&&e.on==j)|none=>false)
  |_,_=>false
theorem akk{L:Nat}{f:Oper}(g:ops[L]?=some f)(h:Q0 md ops L=true):(∀(j:Nat) (o:Oper),ops[j]?=some o->o.guard=none)/\(∀(j:Nat) (o:Oper),ops[j]?=some o->∀e∈o.after,e.on<j)/\∀j,j<ops.size->j≠L->∃(k:Nat) (o:Oper),j<k/\ops[k]?=some o/\∃e∈o.after,Region.binds md e=true/\e.on=j:=by
 unfold Q0 at h;rw[List.all_eq_true] at h;have c:∀(j:Nat) (o:Oper),ops[j]?=some o->(o.guard.isNone&&o.after.all (λe=>decide (e.on<j))&&(j==L || (List.range ops.size).any λk=>decide (j<k)&&match ops[k]? with|some ok=>ok.after.any (λe=>Region.binds md e&&e.on==j)|none=>false))=true:=λj o a=>by
  have:=h j (List.mem_range.2 (Array.getElem?_eq_some_iff.1 a).1);rwa[a,g] at this
 refine⟨λj o a=>?_,λj o a e he=>?_,λj i l=>?_⟩
 ·have:=c j o a;simp only[Bool.and_eq_true] at this;simpa using this.1.1
 ·have:=c j o a;simp only[Bool.and_eq_true,Array.all_eq_true_iff_forall_mem] at this;simpa using this.1.2 e he
 have:=c j _ (Array.getElem?_eq_getElem i);simp only[Bool.and_eq_true,Bool.or_eq_true,List.any_eq_true] at this;rcases this.2 with h1|⟨k,hk,m,b⟩
 ·exact absurd (by simpa using h1) l
 cases d:ops[k]? with
 |none=>rw[d] at b;cases b
 |some ok=>
  rw[d] at b;simp only[Array.any_eq_true',Bool.and_eq_true] at b;have⟨e,he,n,p⟩:=b;exact⟨k,ok,of_decide_eq_true m,d,e,he,n,by simpa using p⟩
def p8(P:Program)(oL:Oper)(Q:Exit->Act->World->Prop):Exit->Act->World->Prop
 |.normal,a,w=>Oper.wp P oL a w (Q .normal) Q
 |e,a,w=>Q e a w
theorem sx{S:World->Prop}(L){b:Oper}{id:Nat}{a:Act}{w:Z0}(hm:P.follows .mixedOrders=true)(d:ops[L]?=some b)(f:Q0 .any ops L=true)(h:wpAnyH P .any (jM ops L b) (p8 P b Q) S ops.size (Array.replicate ops.size false) a w.drew):(Code.region id ops true).wp P Q a w:=by
 have⟨e,g,hw⟩:=akk d f;refine wp_region_any hm (ad6 d (e L b d) e g hw (Q':=p8 P b Q) (λa w h=>h) (λc a w h=>h) (λa w h=>h) _ _ _ _ (by simp) (λk o i hk=>by exfalso;have j:k<ops.size:=(Array.getElem?_eq_some_iff.1 i).1;simp[j] at hk) (by simp[(Array.getElem?_eq_some_iff.1 d).1]) (wpAny_of_held _ _ _ _ h))
theorem lY{P:Program}{ops:Array Oper}{Q:Exit->Act->World->Prop}{S:World->Prop}{id:Nat}{a:Act}{w:Z0}(hm:P.follows .mixedOrders=true)
  (h:wpAnyH P .any ops Q S ops.size (Array.replicate ops.size false) a w.drew):(Code.region id ops true).wp P Q a w:=wp_region_held hm h
end
end Go.Vx
namespace Go.Proofs
section
open Go.Shelf
def Tryz.aqZ:Shelf.Ren:=⟨fun|125=>108|128=>202|129=>203|n=>n,fun|46=>194|3=>3|51=>27|53=>277|4=>4|5=>5|9=>9|n=>n,fun|n=>n⟩
theorem Tryz.ar0:Lays.n125 prog aqZ:={
 mixed:=Zx
 f125:=ZT func108
 f128:=ZT func202
 f129:=ZT func203
 t3:=underlying3
 a3:=isAgg3
 z3:=sizeOf3
 v3:=zeroValue3
 t4:=underlying4
 a4:=isAgg4
 z4:=sizeOf4
 v4:=zeroValue4
 t5:=underlying5
 a5:=isAgg5
 z5:=sizeOf5
 v5:=zeroValue5
 t9:=underlying9
 a9:=isAgg9
 z9:=sizeOf9
 v9:=zeroValue9
 t46:=underlying194
 a46:=isAgg194
 z46:=sizeOf194
 v46:=zeroValue194
 t51:=underlying27
 a51:=isAgg27
 z51:=sizeOf27
 v51:=zeroValue27
 t53:=underlying277
 a53:=isAgg277
 z53:=sizeOf277
 v53:=zeroValue277}
theorem Tryz.bits_Len(x:Int)(w:Z0)(a:0<=x)(h1:x<=18446744073709551615):
  Calls prog 108 #[.int .u64 x] w fun e w'=>e=.returned (.int .i64 (Lib.bitLen x.toNat))/\w'=w:=Any.bits_Len ar0 x w a h1
def Tryz.lays210_ren:Shelf.Ren:=⟨fun|210=>348|206=>355|n=>n,fun|9=>9|4=>4|3=>3|n=>n,fun|n=>n⟩
open Go.RowKit in
def Tryz.lays103_ren:Shelf.Ren:=⟨fun|103=>318|210=>348|206=>355|n=>n,fun|9=>9|4=>4|24=>436|3=>3|n=>n,fun|n=>n⟩
theorem Tryz.lays103:Lays.n103 prog lays103_ren:={
 mixed:=Zx
 f103:=ZT func318
 f206:=ZT func355
 f210:=ZT func348
 t3:=underlying3
 a3:=isAgg3
 z3:=sizeOf3
 v3:=zeroValue3
 t4:=underlying4
 a4:=isAgg4
 z4:=sizeOf4
 v4:=zeroValue4
 t9:=underlying9
 a9:=isAgg9
 z9:=sizeOf9
 v9:=zeroValue9
 t24:=underlying436
 a24:=isAgg436
 z24:=sizeOf436
 v24:=zeroValue436}
open Go.RowKit in
theorem Tryz.strings_CutPrefix(s p:ByteArray)(w:Z0):
  Calls prog 318 #[.string s,.string p] w fun e w'=>e=.returned (.tuple #[.string ⟨(Lib.trimPrefix s.data.toList p.data.toList).toArray⟩,.bool (Lib.hasPrefix s.data.toList p.data.toList)])/\w'=w:=Any.strings_CutPrefix lays103 s p w
open Go.RowKit in
open Go.RowKit in
def Tryz.lays172_ren:Shelf.Ren:=⟨fun|172=>277|244=>320|245=>321|247=>350|279=>351|280=>352|281=>353|282=>354|287=>349|316=>368|171=>279|205=>369|321=>366|322=>367|243=>323|246=>356|283=>370|284=>371|285=>372|286=>373|129=>203|317=>377|318=>378|319=>379|320=>380|337=>383|338=>384|n=>n,fun|9=>9|3=>3|75=>399|76=>400|4=>4|5=>5|167=>463|37=>128|0=>0|85=>464|2=>2|168=>466|53=>277|175=>438|46=>194|210=>481|127=>490|145=>493|143=>491|21=>21|171=>483|173=>485|212=>494|51=>27|20=>20|213=>495|232=>501|233=>502|80=>42|n=>n,fun|15=>7|16=>8|17=>9|18=>10|19=>11|n=>n⟩
open Go.RowKit in
open Go.Lib in
open Go.Lib in
open Go.Lib in
open Go.Lib in
open Go.RowKit Go.Sort Go.Lib in
def Tryz.laysM246_ren:Shelf.Ren:=⟨fun|246=>356|283=>370|284=>371|285=>372|286=>373|129=>203|317=>377|318=>378|319=>379|320=>380|337=>383|338=>384|n=>n,fun|2=>2|3=>3|9=>9|4=>4|171=>483|0=>0|53=>277|37=>128|5=>5|173=>485|212=>494|51=>27|20=>20|213=>495|46=>194|232=>501|233=>502|n=>n,fun|17=>9|18=>10|19=>11|n=>n⟩
open Go.RowKit Go.Sort Go.Lib in
open Go.RowKit Go.Sort Go.Lib in
def Tryz.laysM243_ren:Shelf.Ren:=⟨fun|243=>323|246=>356|283=>370|284=>371|285=>372|286=>373|129=>203|317=>377|318=>378|319=>379|320=>380|337=>383|338=>384|n=>n,fun|3=>3|9=>9|2=>2|4=>4|171=>483|0=>0|53=>277|37=>128|5=>5|173=>485|212=>494|51=>27|20=>20|213=>495|46=>194|232=>501|233=>502|n=>n,fun|17=>9|18=>10|19=>11|n=>n⟩
open Go.RowKit Go.Sort Go.Lib in
open Go.RowKit Go.Sort Go.Lib in
def Tryz.laysM171_ren:Shelf.Ren:=⟨fun|171=>279|243=>323|246=>356|283=>370|284=>371|285=>372|286=>373|129=>203|317=>377|318=>378|319=>379|320=>380|337=>383|338=>384|n=>n,fun|3=>3|9=>9|2=>2|4=>4|171=>483|0=>0|53=>277|37=>128|5=>5|173=>485|212=>494|51=>27|20=>20|213=>495|46=>194|232=>501|233=>502|n=>n,fun|17=>9|18=>10|19=>11|n=>n⟩
open Go.RowKit Go.Sort Go.Lib in
def Tryz.lays171_ren:Shelf.Ren:=⟨fun|171=>279|243=>323|246=>356|283=>370|284=>371|285=>372|286=>373|129=>203|317=>377|318=>378|319=>379|320=>380|337=>383|338=>384|n=>n,fun|3=>3|9=>9|2=>2|4=>4|171=>483|0=>0|53=>277|37=>128|5=>5|173=>485|212=>494|51=>27|20=>20|213=>495|46=>194|232=>501|233=>502|n=>n,fun|17=>9|18=>10|19=>11|n=>n⟩
theorem Tryz.lays171:Lays.n171 prog lays171_ren:={
 mixed:=Zx
 f129:=ZT func203
 f171:=ZT func279
 f243:=ZT func323
 f246:=ZT func356
 f283:=ZT func370
 f284:=ZT func371
 f285:=ZT func372
 f286:=ZT func373
 f317:=ZT func377
 f318:=ZT func378
 f319:=ZT func379
 f320:=ZT func380
 f337:=ZT func383
 f338:=ZT func384
 t0:=underlying0
 a0:=isAgg0
 z0:=sizeOf0
 v0:=zeroValue0
 t2:=underlying2
 a2:=isAgg2
 z2:=sizeOf2
 v2:=zeroValue2
 t3:=underlying3
 a3:=isAgg3
 z3:=sizeOf3
 v3:=zeroValue3
 t4:=underlying4
 a4:=isAgg4
 z4:=sizeOf4
 v4:=zeroValue4
 t5:=underlying5
 a5:=isAgg5
 z5:=sizeOf5
 v5:=zeroValue5
 t9:=underlying9
 a9:=isAgg9
 z9:=sizeOf9
 v9:=zeroValue9
 t20:=underlying20
 a20:=isAgg20
 z20:=sizeOf20
 v20:=zeroValue20
 t37:=underlying128
 a37:=isAgg128
 z37:=sizeOf128
 v37:=zeroValue128
 t46:=underlying194
 a46:=isAgg194
 z46:=sizeOf194
 v46:=zeroValue194
 t51:=underlying27
 a51:=isAgg27
 z51:=sizeOf27
 v51:=zeroValue27
 t53:=underlying277
 a53:=isAgg277
 z53:=sizeOf277
 v53:=zeroValue277
 t171:=underlying483
 a171:=isAgg483
 z171:=sizeOf483
 v171:=zeroValue483
 t173:=underlying485
 a173:=isAgg485
 z173:=sizeOf485
 v173:=zeroValue485
 t212:=underlying494
 a212:=isAgg494
 z212:=sizeOf494
 v212:=zeroValue494
 t213:=underlying495
 a213:=isAgg495
 z213:=sizeOf495
 t232:=underlying501
 a232:=isAgg501
 z232:=sizeOf501
 v232:=zeroValue501
 t233:=underlying502
 a233:=isAgg502
 z233:=sizeOf502
 v233:=zeroValue502
 g17:=Zx
 g18:=Zx
 g19:=by kernel_rfl}
open Go.RowKit Go.Sort Go.Lib in
theorem Tryz.strconv_Itoa_small(i:Nat)(hi:i<100)(w:Z0):
  Calls prog 279 #[.int .i64 i] w fun e w'=>e=.returned (.string ⟨(Lib.decDigits i).toArray⟩)/\w'=w:=Any.strconv_Itoa_small lays171 i hi w
open Go.RowKit in
open Go.RowKit in
open Go.RowKit in
open Go.RowKit in
open Go.RowKit in
open Go.RowKit in
open Go.RowKit in
open Go.RowKit in
open Go.RowKit in
open Go.RowKit in
open Go.RowKit in
open Go.RowKit in
open Go.RowKit in
open Go.RowKit in
open Go.RowKit in
open Go.RowKit in
def Tryz.laysC172_ren:Shelf.Ren:=⟨fun|172=>277|244=>320|245=>321|247=>350|279=>351|280=>352|281=>353|282=>354|287=>349|316=>368|171=>279|205=>369|321=>366|322=>367|243=>323|246=>356|283=>370|284=>371|285=>372|286=>373|129=>203|317=>377|318=>378|319=>379|320=>380|337=>383|338=>384|n=>n,fun|9=>9|3=>3|75=>399|76=>400|4=>4|5=>5|167=>463|37=>128|0=>0|85=>464|2=>2|168=>466|53=>277|175=>438|46=>194|210=>481|127=>490|145=>493|143=>491|21=>21|171=>483|173=>485|212=>494|51=>27|20=>20|213=>495|232=>501|233=>502|80=>42|n=>n,fun|15=>7|16=>8|17=>9|18=>10|19=>11|n=>n⟩
theorem Tryz.laysC172:LaysC.n172 prog laysC172_ren:={
 mixed:=Zx
 f129:=ZT func203
 f171:=ZT func279
 f172:=ZT func277
 f205:=ZT func369
 f243:=ZT func323
 f244:=ZT func320
 f245:=ZT func321
 f246:=ZT func356
 f247:=ZT func350
 f279:=ZT func351
 f280:=ZT func352
 f281:=ZT func353
 f282:=ZT func354
 f283:=ZT func370
 f284:=ZT func371
 f285:=ZT func372
 f286:=ZT func373
 f287:=ZT func349
 f316:=ZT func368
 f317:=ZT func377
 f318:=ZT func378
 f319:=ZT func379
 f320:=ZT func380
 f321:=ZT func366
 f322:=ZT func367
 f337:=ZT func383
 f338:=ZT func384
 t0:=underlying0
 a0:=isAgg0
 z0:=sizeOf0
 v0:=zeroValue0
 t2:=underlying2
 a2:=isAgg2
 z2:=sizeOf2
 v2:=zeroValue2
 t3:=underlying3
 a3:=isAgg3
 z3:=sizeOf3
 v3:=zeroValue3
 t4:=underlying4
 a4:=isAgg4
 z4:=sizeOf4
 v4:=zeroValue4
 t5:=underlying5
 a5:=isAgg5
 z5:=sizeOf5
 v5:=zeroValue5
 t9:=underlying9
 a9:=isAgg9
 z9:=sizeOf9
 v9:=zeroValue9
 t20:=underlying20
 a20:=isAgg20
 z20:=sizeOf20
 v20:=zeroValue20
 t21:=underlying21
 a21:=isAgg21
 z21:=sizeOf21
 v21:=zeroValue21
 t37:=underlying128
 a37:=isAgg128
 z37:=sizeOf128
 v37:=zeroValue128
 t46:=underlying194
 a46:=isAgg194
 z46:=sizeOf194
 v46:=zeroValue194
 t51:=underlying27
 a51:=isAgg27
 z51:=sizeOf27
 v51:=zeroValue27
 t53:=underlying277
 a53:=isAgg277
 z53:=sizeOf277
 v53:=zeroValue277
 t75:=underlying399
 a75:=isAgg399
 z75:=sizeOf399
 v75:=zeroValue399
 t76:=underlying400
 a76:=isAgg400
 z76:=sizeOf400
 v76:=zeroValue400
 t85:=underlying464
 a85:=isAgg464
 z85:=sizeOf464
 v85:=zeroValue464
 t127:=underlying490
 a127:=isAgg490
 z127:=sizeOf490
 v127:=zeroValue490
 t143:=underlying491
 a143:=isAgg491
 z143:=sizeOf491
 v143:=zeroValue491
 t145:=underlying493
 a145:=isAgg493
 z145:=sizeOf493
 v145:=zeroValue493
 t167:=underlying463
 a167:=isAgg463
 z167:=sizeOf463
 v167:=zeroValue463
 t168:=underlying466
 a168:=isAgg466
 z168:=sizeOf466
 v168:=zeroValue466
 t171:=underlying483
 a171:=isAgg483
 z171:=sizeOf483
 v171:=zeroValue483
 t173:=underlying485
 a173:=isAgg485
 z173:=sizeOf485
 v173:=zeroValue485
 t175:=underlying438
 a175:=isAgg438
 z175:=sizeOf438
 v175:=zeroValue438
 t210:=underlying481
 a210:=isAgg481
 z210:=sizeOf481
 v210:=zeroValue481
 t212:=underlying494
 a212:=isAgg494
 z212:=sizeOf494
 v212:=zeroValue494
 t213:=underlying495
 a213:=isAgg495
 z213:=sizeOf495
 t232:=underlying501
 a232:=isAgg501
 z232:=sizeOf501
 v232:=zeroValue501
 t233:=underlying502
 a233:=isAgg502
 z233:=sizeOf502
 v233:=zeroValue502
 g15:=Zx
 g16:=Zx
 g17:=Zx
 g18:=Zx
 g19:=Zx
 t80:=underlying42
 a80:=isAgg42
 z80:=sizeOf42
 v80:=zeroValue42
 i0:=Zx
 i2:=Zx
 i3:=Zx
 i4:=Zx
 i5:=Zx
 i9:=Zx
 i20:=Zx
 i21:=Zx
 i37:=Zx
 i46:=Zx
 i51:=Zx
 i53:=Zx
 i75:=Zx
 i76:=Zx
 i80:=Zx
 i85:=Zx
 i127:=Zx
 i143:=Zx
 i145:=Zx
 i167:=Zx
 i168:=Zx
 i171:=Zx
 i173:=Zx
 i175:=Zx
 i210:=Zx
 i212:=Zx
 i232:=Zx
 i233:=Zx
 m15:=Zx
 m16:=Zx
 m17:=Zx
 m18:=Zx
 m19:=Zx
 c0:=Zx
 c2:=Zx
 c3:=Zx
 c4:=Zx
 c5:=Zx
 c9:=Zx
 c20:=Zx
 c21:=Zx
 c37:=Zx
 c46:=Zx
 c51:=Zx
 c53:=Zx
 c75:=Zx
 c76:=Zx
 c80:=Zx
 c85:=Zx
 c127:=Zx
 c143:=Zx
 c145:=Zx
 c167:=Zx
 c168:=Zx
 c171:=Zx
 c173:=Zx
 c175:=Zx
 c210:=Zx
 c212:=Zx
 c213:=Zx
 c232:=Zx
 c233:=by kernel_rfl}
open Go.RowKit in
theorem Tryz.strconv_Atoi_ok(s:ByteArray)(a:s.size<=9223372036854775806)(v:Int)(h:Lib.atoiAll s.data.toList=.ok v)(w:Z0):
  Calls prog 277 #[.string s] w fun e w'=>e=.returned (.tuple #[.int .i64 v,.nilIface])/\(w'=w\/∃t,w'=Lib.bytesWorld w 5 t):=Any.strconv_Atoi_ok laysC172 s a v h w
open Go.RowKit in
open Go.RowKit in
def Tryz.laysPu14_ren:Shelf.Ren:=⟨fun|14=>319|16=>349|17=>321|19=>366|20=>367|21=>351|22=>352|23=>353|24=>354|25=>368|27=>279|26=>369|28=>323|29=>356|30=>370|31=>371|32=>372|33=>373|35=>203|34=>377|36=>378|37=>379|38=>380|39=>383|40=>384|n=>n,fun|9=>9|3=>3|22=>277|24=>399|25=>438|4=>4|34=>463|5=>5|36=>194|37=>128|0=>0|39=>466|21=>21|44=>481|47=>490|50=>493|48=>491|2=>2|52=>483|55=>485|59=>494|60=>27|20=>20|61=>495|65=>501|66=>502|67=>42|n=>n,fun|0=>7|1=>8|2=>9|3=>10|4=>11|n=>n⟩
theorem Tryz.laysPu14:LaysPu.n14 prog laysPu14_ren:={
 mixed:=Zx
 f14:=ZT func319
 f16:=ZT func349
 f17:=ZT func321
 f19:=ZT func366
 f20:=ZT func367
 f21:=ZT func351
 f22:=ZT func352
 f23:=ZT func353
 f24:=ZT func354
 f25:=ZT func368
 f26:=ZT func369
 f27:=ZT func279
 f28:=ZT func323
 f29:=ZT func356
 f30:=ZT func370
 f31:=ZT func371
 f32:=ZT func372
 f33:=ZT func373
 f34:=ZT func377
 f35:=ZT func203
 f36:=ZT func378
 f37:=ZT func379
 f38:=ZT func380
 f39:=ZT func383
 f40:=ZT func384
 t0:=underlying0
 a0:=isAgg0
 z0:=sizeOf0
 v0:=zeroValue0
 i0:=Zx
 t2:=underlying2
 a2:=isAgg2
 z2:=sizeOf2
 v2:=zeroValue2
 i2:=Zx
 t3:=underlying3
 a3:=isAgg3
 z3:=sizeOf3
 v3:=zeroValue3
 i3:=Zx
 t4:=underlying4
 a4:=isAgg4
 z4:=sizeOf4
 v4:=zeroValue4
 i4:=Zx
 t5:=underlying5
 a5:=isAgg5
 z5:=sizeOf5
 v5:=zeroValue5
 i5:=Zx
 t9:=underlying9
 a9:=isAgg9
 z9:=sizeOf9
 v9:=zeroValue9
 i9:=Zx
 t20:=underlying20
 a20:=isAgg20
 z20:=sizeOf20
 v20:=zeroValue20
 i20:=Zx
 t21:=underlying21
 a21:=isAgg21
 z21:=sizeOf21
 v21:=zeroValue21
 i21:=Zx
 t22:=underlying277
 a22:=isAgg277
 z22:=sizeOf277
 v22:=zeroValue277
 i22:=Zx
 t24:=underlying399
 a24:=isAgg399
 z24:=sizeOf399
 v24:=zeroValue399
 i24:=Zx
 t25:=underlying438
 a25:=isAgg438
 z25:=sizeOf438
 v25:=zeroValue438
 i25:=Zx
 t34:=underlying463
 a34:=isAgg463
 z34:=sizeOf463
 v34:=zeroValue463
 i34:=Zx
 c34:=Zx
 t36:=underlying194
 a36:=isAgg194
 z36:=sizeOf194
 v36:=zeroValue194
 i36:=Zx
 t37:=underlying128
 a37:=isAgg128
 z37:=sizeOf128
 v37:=zeroValue128
 i37:=Zx
 t39:=underlying466
 a39:=isAgg466
 z39:=sizeOf466
 v39:=zeroValue466
 i39:=Zx
 t44:=underlying481
 a44:=isAgg481
 z44:=sizeOf481
 v44:=zeroValue481
 i44:=Zx
 t47:=underlying490
 a47:=isAgg490
 z47:=sizeOf490
 v47:=zeroValue490
 i47:=Zx
 t48:=underlying491
 a48:=isAgg491
 z48:=sizeOf491
 v48:=zeroValue491
 i48:=Zx
 t50:=underlying493
 a50:=isAgg493
 z50:=sizeOf493
 v50:=zeroValue493
 i50:=Zx
 t52:=underlying483
 a52:=isAgg483
 z52:=sizeOf483
 v52:=zeroValue483
 i52:=Zx
 t55:=underlying485
 a55:=isAgg485
 z55:=sizeOf485
 v55:=zeroValue485
 i55:=Zx
 t59:=underlying494
 a59:=isAgg494
 z59:=sizeOf494
 v59:=zeroValue494
 i59:=Zx
 t60:=underlying27
 a60:=isAgg27
 z60:=sizeOf27
 v60:=zeroValue27
 i60:=Zx
 t61:=underlying495
 a61:=isAgg495
 z61:=sizeOf495
 t65:=underlying501
 a65:=isAgg501
 z65:=sizeOf501
 v65:=zeroValue501
 i65:=Zx
 t66:=underlying502
 a66:=isAgg502
 z66:=sizeOf502
 v66:=zeroValue502
 i66:=Zx
 t67:=underlying42
 a67:=isAgg42
 z67:=sizeOf42
 v67:=zeroValue42
 i67:=Zx
 g0:=Zx
 m0:=Zx
 g1:=Zx
 m1:=Zx
 g2:=Zx
 m2:=Zx
 g3:=Zx
 m3:=Zx
 g4:=Zx
 m4:=by kernel_rfl}
open Go.RowKit in
open Go.RowKit in
open Go.RowKit in
open Go.RowKit in
theorem Tryz.strconv_ParseUint_10_at64_ok(s:ByteArray)(a:s.size<=9223372036854775806)(u:Nat)(h:Lib.parseUintB 64 s.data.toList=.ok u)(w:Z0):
  Calls prog 319 #[.string s,.int .i64 10,.int .i64 64] w fun e w'=>e=.returned (.tuple #[.int .u64 u,.nilIface])/\(w'=w\/w'=Lib.bytesWorld w 5 s):=Any.strconv_ParseUint_10_at64_ok laysPu14 s a u h w
open Go.RowKit in
open Go.RowKit in
open Go.RowKit in
open Go.RowKit in
open Go.RowKit in
open Go.RowKit in
open Go.RowKit in
open Go.RowKit in
open Go.RowKit in
open Go.RowKit in
open Go.RowKit in
open Go.RowKit Go.Lib in
open Go.RowKit Go.Lib in
open Go.RowKit Go.Lib in
open Go.RowKit Go.Lib in
def Tryz.lays219_ren:Shelf.Ren:=⟨fun|219=>109|217=>204|225=>205|224=>206|267=>207|266=>273|314=>274|n=>n,fun|9=>9|3=>3|4=>4|5=>5|46=>194|146=>395|51=>27|n=>n,fun|1=>0|n=>n⟩
open Go.RowKit Go.Lib in
open Go.RowKit Go.Lib in
open Go.RowKit Go.Lib in
open Go.RowKit Go.Lib in
open Go.RowKit Go.Lib in
def Tryz.lays145_ren:Shelf.Ren:=⟨fun|145=>112|220=>209|219=>109|217=>204|225=>205|224=>206|267=>207|266=>273|314=>274|n=>n,fun|9=>9|4=>4|59=>255|3=>3|5=>5|46=>194|146=>395|51=>27|n=>n,fun|1=>0|n=>n⟩
theorem Tryz.lays145:Lays.n145 prog lays145_ren:={
 mixed:=Zx
 f145:=ZT func112
 f217:=ZT func204
 f219:=ZT func109
 f220:=ZT func209
 f224:=ZT func206
 f225:=ZT func205
 f266:=ZT func273
 f267:=ZT func207
 f314:=ZT func274
 t3:=underlying3
 a3:=isAgg3
 z3:=sizeOf3
 v3:=zeroValue3
 t4:=underlying4
 a4:=isAgg4
 z4:=sizeOf4
 v4:=zeroValue4
 t5:=underlying5
 a5:=isAgg5
 z5:=sizeOf5
 v5:=zeroValue5
 t9:=underlying9
 a9:=isAgg9
 z9:=sizeOf9
 v9:=zeroValue9
 t46:=underlying194
 a46:=isAgg194
 z46:=sizeOf194
 v46:=zeroValue194
 t51:=underlying27
 a51:=isAgg27
 z51:=sizeOf27
 v51:=zeroValue27
 t59:=underlying255
 a59:=isAgg255
 z59:=sizeOf255
 v59:=zeroValue255
 t146:=underlying395
 a146:=isAgg395
 z146:=sizeOf395
 v146:=zeroValue395
 g1:=by kernel_rfl}
open Go.RowKit Go.Lib in
theorem Tryz.strings_Cut(s sep:ByteArray)(m:Int)(w:Z0)(hs:s.size<4294967281)(hm:w.cell? ⟨0,0,none⟩=some (.int .i64 m)):
  Calls prog 112 #[.string s,.string sep] w fun e w'=>e=.returned (.tuple #[.string ⟨(Lib.cut s.data.toList sep.data.toList).1.toArray⟩,.string ⟨(Lib.cut s.data.toList sep.data.toList).2.1.toArray⟩,.bool (Lib.cut s.data.toList sep.data.toList).2.2])/\∃n,w'=w.drewN n:=Any.strings_Cut lays145 s sep m w hs hm
def Tryz.lays138_ren:Shelf.Ren:=⟨fun|138=>25|195=>69|218=>70|143=>71|219=>109|217=>204|225=>205|224=>206|267=>207|266=>273|314=>274|n=>n,fun|9=>9|3=>3|4=>4|5=>5|0=>0|46=>194|146=>395|51=>27|n=>n,fun|1=>0|n=>n⟩
theorem Tryz.lays138:Lays.n138 prog lays138_ren:={
 mixed:=Zx
 f138:=ZT func25
 f143:=ZT func71
 f195:=ZT func69
 f217:=ZT func204
 f218:=ZT func70
 f219:=ZT func109
 f224:=ZT func206
 f225:=ZT func205
 f266:=ZT func273
 f267:=ZT func207
 f314:=ZT func274
 t0:=underlying0
 a0:=isAgg0
 z0:=sizeOf0
 v0:=zeroValue0
 t3:=underlying3
 a3:=isAgg3
 z3:=sizeOf3
 v3:=zeroValue3
 t4:=underlying4
 a4:=isAgg4
 z4:=sizeOf4
 v4:=zeroValue4
 t5:=underlying5
 a5:=isAgg5
 z5:=sizeOf5
 v5:=zeroValue5
 t9:=underlying9
 a9:=isAgg9
 z9:=sizeOf9
 v9:=zeroValue9
 t46:=underlying194
 a46:=isAgg194
 z46:=sizeOf194
 v46:=zeroValue194
 t51:=underlying27
 a51:=isAgg27
 z51:=sizeOf27
 v51:=zeroValue27
 t146:=underlying395
 a146:=isAgg395
 z146:=sizeOf395
 v146:=zeroValue395
 g1:=by kernel_rfl}
open Go.RowKit Go.Lib in
theorem Tryz.strings_Count_one(s:ByteArray)(c:UInt8)(w:Z0):
  Calls prog 25 #[.string s,.string ⟨#[c]⟩] w fun e w'=>e=.returned (.int .i64 (Lib.countByte s.data.toList c))/\w'=w:=Any.strings_Count_one lays138 s c w
open Go.RowKit Go.Lib in
open Go.RowKit Go.Lib in
open Go.RowKit Go.Lib in
def Tryz.lays101_ren:Shelf.Ren:=⟨fun|101=>278|208=>322|206=>355|n=>n,fun|9=>9|4=>4|3=>3|n=>n,fun|n=>n⟩
theorem Tryz.lays101:Lays.n101 prog lays101_ren:={
 mixed:=Zx
 f101:=ZT func278
 f206:=ZT func355
 f208:=ZT func322
 t3:=underlying3
 a3:=isAgg3
 z3:=sizeOf3
 v3:=zeroValue3
 t4:=underlying4
 a4:=isAgg4
 z4:=sizeOf4
 v4:=zeroValue4
 t9:=underlying9
 a9:=isAgg9
 z9:=sizeOf9
 v9:=zeroValue9}
open Go.RowKit Go.Lib in
theorem Tryz.strings_TrimPrefix(s p:ByteArray)(w:Z0):
  Calls prog 278 #[.string s,.string p] w fun e w'=>e=.returned (.string ⟨(Lib.trimPrefix s.data.toList p.data.toList).toArray⟩)/\w'=w:=Any.strings_TrimPrefix lays101 s p w
open Go.RowKit Go.Lib in
def Tryz.lays221_ren:Shelf.Ren:=⟨fun|221=>72|268=>110|138=>25|143=>71|195=>69|197=>208|218=>70|219=>109|260=>275|217=>204|225=>205|224=>206|267=>207|266=>273|314=>274|n=>n,fun|9=>9|3=>3|31=>119|4=>4|0=>0|105=>324|21=>21|5=>5|46=>194|119=>432|139=>435|138=>434|146=>395|51=>27|n=>n,fun|1=>0|3=>4|4=>5|n=>n⟩
open Go.RowKit Go.Lib in
def Tryz.lays146_ren:Shelf.Ren:=⟨fun|146=>26|221=>72|268=>110|138=>25|143=>71|195=>69|197=>208|218=>70|219=>109|260=>275|217=>204|225=>205|224=>206|267=>207|266=>273|314=>274|n=>n,fun|9=>9|31=>119|3=>3|4=>4|0=>0|105=>324|21=>21|5=>5|46=>194|119=>432|139=>435|138=>434|146=>395|51=>27|n=>n,fun|1=>0|3=>4|4=>5|n=>n⟩
theorem Tryz.lays146:Lays.n146 prog lays146_ren:={
 mixed:=Zx
 f138:=ZT func25
 f143:=ZT func71
 f146:=ZT func26
 f195:=ZT func69
 f197:=ZT func208
 f217:=ZT func204
 f218:=ZT func70
 f219:=ZT func109
 f221:=ZT func72
 f224:=ZT func206
 f225:=ZT func205
 f260:=ZT func275
 f266:=ZT func273
 f267:=ZT func207
 f268:=ZT func110
 f314:=ZT func274
 t0:=underlying0
 a0:=isAgg0
 z0:=sizeOf0
 v0:=zeroValue0
 t3:=underlying3
 a3:=isAgg3
 z3:=sizeOf3
 v3:=zeroValue3
 t4:=underlying4
 a4:=isAgg4
 z4:=sizeOf4
 v4:=zeroValue4
 t5:=underlying5
 a5:=isAgg5
 z5:=sizeOf5
 v5:=zeroValue5
 t9:=underlying9
 a9:=isAgg9
 z9:=sizeOf9
 v9:=zeroValue9
 t21:=underlying21
 a21:=isAgg21
 z21:=sizeOf21
 v21:=zeroValue21
 t31:=underlying119
 a31:=isAgg119
 z31:=sizeOf119
 v31:=zeroValue119
 t46:=underlying194
 a46:=isAgg194
 z46:=sizeOf194
 v46:=zeroValue194
 t51:=underlying27
 a51:=isAgg27
 z51:=sizeOf27
 v51:=zeroValue27
 t105:=underlying324
 a105:=isAgg324
 z105:=sizeOf324
 v105:=zeroValue324
 t119:=underlying432
 a119:=isAgg432
 z119:=sizeOf432
 t138:=underlying434
 a138:=isAgg434
 z138:=sizeOf434
 v138:=zeroValue434
 t139:=underlying435
 a139:=isAgg435
 z139:=sizeOf435
 v139:=zeroValue435
 t146:=underlying395
 a146:=isAgg395
 z146:=sizeOf395
 v146:=zeroValue395
 g1:=Zx
 g3:=Zx
 g4:=by kernel_rfl}
open Go.RowKit Go.Lib in
theorem Tryz.strings_Split(s sep:ByteArray)(m:Int)(w:Z0)(hs:s.size<4294967281)(hm:w.cell? ⟨0,0,none⟩=some (.int .i64 m))(h1:1<=sep.size):
  Calls prog 26 #[.string s,.string sep] w fun e w'=>
   e=.returned (.slice (some ⟨w.heap.size,0,none⟩) (Lib.countB s sep+1) (Lib.countB s sep+1))/\w'=w.alloc (.cells ((Lib.splitB sep 0 (Lib.countB s sep) s).map Value.string).toArray 9):=Any.strings_Split lays146 Zx s sep m w hs hm h1
open Go.RowKit Go.Lib in
def Tryz.laysSlM5_f64_ren:Shelf.Ren:=⟨fun|5=>64|8=>108|7=>107|19=>202|20=>203|10=>193|11=>194|12=>195|13=>196|14=>197|15=>198|16=>199|17=>200|18=>201|30=>267|31=>268|32=>269|33=>270|34=>271|35=>272|40=>317|n=>n,fun|23=>24|25=>3|3=>3|32=>194|22=>24|0=>0|44=>27|46=>277|4=>4|36=>317|35=>316|41=>258|5=>5|9=>9|53=>389|57=>393|63=>430|64=>178|n=>n,fun|n=>n⟩
theorem Tryz.laysSlM5_f64:SlLaysM.n5 prog laysSlM5_f64_ren:={
 mixed:=Zx
 f5:=⟨f64.name,I,func64.trans (congrArg some Zx)⟩
 f7:=⟨f107.name,I,func107.trans (congrArg some Zx)⟩
 f8:=ZT func108
 f10:=⟨f193.name,I,func193.trans (congrArg some Zx)⟩
 f11:=⟨f194.name,I,func194.trans (congrArg some Zx)⟩
 f12:=⟨f195.name,I,func195.trans (congrArg some Zx)⟩
 f13:=⟨f196.name,I,func196.trans (congrArg some Zx)⟩
 f14:=⟨f197.name,I,func197.trans (congrArg some Zx)⟩
 f15:=⟨f198.name,I,func198.trans (congrArg some Zx)⟩
 f16:=⟨f199.name,I,func199.trans (congrArg some Zx)⟩
 f17:=⟨f200.name,I,func200.trans (congrArg some Zx)⟩
 f18:=⟨f201.name,I,func201.trans (congrArg some Zx)⟩
 f19:=ZT func202
 f20:=ZT func203
 f30:=⟨f267.name,I,func267.trans (congrArg some Zx)⟩
 f31:=ZT func268
 f32:=ZT func269
 f33:=⟨f270.name,I,func270.trans (congrArg some Zx)⟩
 f34:=⟨f271.name,I,func271.trans (congrArg some Zx)⟩
 f35:=⟨f272.name,I,func272.trans (congrArg some Zx)⟩
 f40:=⟨f317.name,I,func317.trans (congrArg some Zx)⟩
 t0:=underlying0
 a0:=isAgg0
 z0:=sizeOf0
 v0:=zeroValue0
 t3:=underlying3
 a3:=isAgg3
 z3:=sizeOf3
 v3:=zeroValue3
 t4:=underlying4
 a4:=isAgg4
 z4:=sizeOf4
 v4:=zeroValue4
 t5:=underlying5
 a5:=isAgg5
 z5:=sizeOf5
 v5:=zeroValue5
 t9:=underlying9
 a9:=isAgg9
 z9:=sizeOf9
 v9:=zeroValue9
 t22:=underlying24
 a22:=isAgg24
 z22:=sizeOf24
 v22:=zeroValue24
 t23:=underlying24
 a23:=isAgg24
 z23:=sizeOf24
 v23:=zeroValue24
 t25:=underlying3
 a25:=isAgg3
 z25:=sizeOf3
 v25:=zeroValue3
 t32:=underlying194
 a32:=isAgg194
 z32:=sizeOf194
 v32:=zeroValue194
 t35:=underlying316
 a35:=isAgg316
 z35:=sizeOf316
 v35:=zeroValue316
 t36:=underlying317
 a36:=isAgg317
 z36:=sizeOf317
 v36:=zeroValue317
 t41:=underlying258
 a41:=isAgg258
 z41:=sizeOf258
 v41:=zeroValue258
 t44:=underlying27
 a44:=isAgg27
 z44:=sizeOf27
 v44:=zeroValue27
 t46:=underlying277
 a46:=isAgg277
 z46:=sizeOf277
 v46:=zeroValue277
 t53:=underlying389
 a53:=isAgg389
 z53:=sizeOf389
 v53:=zeroValue389
 t57:=underlying393
 a57:=isAgg393
 z57:=sizeOf393
 v57:=zeroValue393
 t63:=underlying430
 a63:=isAgg430
 z63:=sizeOf430
 v63:=zeroValue430
 t64:=underlying178
 a64:=isAgg178
 z64:=sizeOf178
 v64:=zeroValue178}
open Go.Sort Go.RowKit in
theorem Tryz.slices_Sort_int(a off cap:Nat)(b:List Int)(w:Z0)(c:Holds (Value.int .i64) w a off b.toArray)(d:a<w.heap.size)(f:b.length<4611686018427387904):
  Calls prog 64 #[.slice (some ⟨a,off,none⟩) b.length cap] w fun e w'=>
   e=.returned (.tuple #[])/\∃n os,w'=grow (putRow (Value.int .i64) (Sort.ahead w n) a off (b.mergeSort fun x y=>decide (x<=y)).toArray) os:=AnyM.slices_Sort_int laysSlM5_f64 a off cap b w c d f
open Go.RowKit Go.Sort in
theorem Tryz.slices_Sort_int_none(p:Option Addr)(cap:Nat)(w:Z0):
  Calls prog 64 #[.slice p 0 cap] w fun e w'=>e=.returned (.tuple #[])/\w'=w:=AnyM.slices_Sort_int_none laysSlM5_f64 p cap w
def Tryz.keysA_ren:Shelf.Ren:=⟨fun|7=>325|10=>357|n=>n,fun|23=>213|26=>3|3=>335|28=>115|0=>0|27=>114|33=>175|4=>4|n=>n,fun|n=>n⟩
theorem Tryz.keysA:SlLaysZI.n7 prog keysA_ren:={
 mixed:=Zx
 f7:=⟨f325.name,I,func325.trans (congrArg some Zx)⟩
 f10:=⟨f357.name,I,func357.trans (congrArg some Zx)⟩
 t0:=underlying0
 a0:=isAgg0
 z0:=sizeOf0
 v0:=zeroValue0
 t4:=underlying4
 a4:=isAgg4
 z4:=sizeOf4
 v4:=zeroValue4
 t23:=underlying213
 a23:=isAgg213
 z23:=sizeOf213
 v23:=zeroValue213
 t26:=underlying3
 a26:=isAgg3
 z26:=sizeOf3
 v26:=zeroValue3
 t27:=underlying114
 a27:=isAgg114
 z27:=sizeOf114
 v27:=zeroValue114
 t28:=underlying115
 a28:=isAgg115
 z28:=sizeOf115
 v28:=zeroValue115
 t33:=underlying175
 a33:=isAgg175
 z33:=sizeOf175
 v33:=zeroValue175}
def Tryz.keysT_ren:Shelf.Ren:=⟨fun|7=>23|10=>65|n=>n,fun|23=>96|26=>3|3=>106|28=>115|0=>0|27=>114|33=>175|4=>4|n=>n,fun|n=>n⟩
theorem Tryz.keysT:SlLaysZI.n7 prog keysT_ren:={
 mixed:=Zx
 f7:=⟨f23.name,I,func23.trans (congrArg some Zx)⟩
 f10:=⟨f65.name,I,func65.trans (congrArg some Zx)⟩
 t0:=underlying0
 a0:=isAgg0
 z0:=sizeOf0
 v0:=zeroValue0
 t4:=underlying4
 a4:=isAgg4
 z4:=sizeOf4
 v4:=zeroValue4
 t23:=underlying96
 a23:=isAgg96
 z23:=sizeOf96
 v23:=zeroValue96
 t26:=underlying3
 a26:=isAgg3
 z26:=sizeOf3
 v26:=zeroValue3
 t27:=underlying114
 a27:=isAgg114
 z27:=sizeOf114
 v27:=zeroValue114
 t28:=underlying115
 a28:=isAgg115
 z28:=sizeOf115
 v28:=zeroValue115
 t33:=underlying175
 a33:=isAgg175
 z33:=sizeOf175
 v33:=zeroValue175}
def Tryz.sortedA_ren:Shelf.Ren:=⟨fun|6=>22|8=>63|9=>64|11=>106|13=>108|12=>107|23=>202|24=>203|14=>193|15=>194|16=>195|17=>196|18=>197|19=>198|20=>199|21=>200|22=>201|25=>267|26=>268|27=>269|28=>270|29=>271|30=>272|31=>317|n=>n,fun|26=>3|28=>115|24=>24|0=>0|3=>3|37=>194|48=>27|50=>277|4=>4|40=>317|39=>316|45=>258|5=>5|9=>9|51=>389|55=>393|57=>430|58=>178|33=>175|n=>n,fun|n=>n⟩
theorem Tryz.sortedA:SlLaysZI.n6 prog sortedA_ren:={
 mixed:=Zx
 f6:=⟨f22.name,I,func22.trans (congrArg some Zx)⟩
 f8:=⟨f63.name,I,func63.trans (congrArg some Zx)⟩
 f11:=⟨f106.name,I,func106.trans (congrArg some Zx)⟩
 t0:=underlying0
 a0:=isAgg0
 z0:=sizeOf0
 v0:=zeroValue0
 t24:=underlying24
 a24:=isAgg24
 z24:=sizeOf24
 v24:=zeroValue24
 t26:=underlying3
 a26:=isAgg3
 z26:=sizeOf3
 v26:=zeroValue3
 t28:=underlying115
 a28:=isAgg115
 z28:=sizeOf115
 v28:=zeroValue115
 i26:=by kernel_rfl}
end
end Go.Proofs

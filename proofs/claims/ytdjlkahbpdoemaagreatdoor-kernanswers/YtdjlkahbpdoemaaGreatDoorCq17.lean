import Derived.Test.YtdjlkahbpdoemaaGreatDoorCq14
import Derived.Test.YtdjlkahbpdoemaaGreatDoorCq15
import Derived.Test.YtdjlkahbpdoemaaGreatDoorCq16
set_option maxRecDepth 100000
set_option maxHeartbeats 8000000
set_option linter.unusedVariables false
set_option linter.unusedSimpArgs false
open Go Go.Vx Go.Proofs.Tryz Go.ChangeShapes Go.WideShapes Go.ChangeAt Go.RowKit
variable {α:Type}{act:Act}{args:Array Value}{y:Et}{Q:Exit->Act->World->Prop}{P a l lf n:Int}{G G2:Int->Nat}{F:List (Nat×Obj)}{ss:List Et}{cs:List Value}{xs:List α}{os rs:Lp}{b bb ck i kb mb pb qb sb t tb ub:Nat}{dm:Nat->Int}{o o2:Obj}{T:TypeId}{w w1 w2 wv:Z0}{S U V:Z1}{d:Z2}{a0 a1 a2 v:Z3}
namespace Go.Proofs.YtdjlkahbpdoemaaGreatDoor
variable {K:Kn}
structure aj(U:Z1)(w:Z0)(kb mb sb pb qb bb tb:Nat)(F:List (Nat×Obj))(K:Kn)(wv:Z0):Prop where
 k:∃V:Z1,(∀k,U k->V k)/\(∀p∈F,V p.1)/\au V wv kb mb sb pb qb bb tb K
 f:∀p∈F,wv.heap[p.1]?=some p.2
 o:Zn U w wv
theorem aj.start(h:au U w kb mb sb pb qb bb tb K):aj U w kb mb sb pb qb bb tb [] K w:=⟨⟨U,λ_ h=>h,λp hp=>(by cases hp),h⟩,λp hp=>(by cases hp),H.refl _ _⟩
theorem aj.quiet(h:aj U w kb mb sb pb qb bb tb F K wv)(a:Zq wv w2):aj U w kb mb sb pb qb bb tb F K w2:=by
 have⟨⟨V,h1,b,c⟩,d,e⟩:=h;exact⟨⟨V,h1,b,c.quiet a⟩,λp hp=>H.keep a (d p hp) id,e.trans (a.f)⟩
theorem aj.drew(h:aj U w kb mb sb pb qb bb tb F K wv):aj U w kb mb sb pb qb bb tb F K wv.drew:=h.quiet ((H.refl _ _).drew)
theorem aj.alloc(h:aj U w kb mb sb pb qb bb tb F K wv)(o):aj U w kb mb sb pb qb bb tb ((wv.heap.size,o)::F) K (wv.alloc o):=by
 have⟨⟨V,h1,b,c⟩,d,e⟩:=h;have a:Zq wv (wv.alloc o):=(H.refl _ wv).alloc o;refine⟨⟨_,λk hk=>Or.inl (h1 k hk),λp hp=>?_,c.wide a⟩,λp hp=>?_,e.trans (a.f)⟩
 ·rcases List.mem_cons.1 hp with rfl|hp
  ·exact Or.inr ⟨Nat.le_refl _,by simp⟩
  exact Or.inl (b p hp)
 rcases List.mem_cons.1 hp with rfl|hp
 ·exact heap_alloc_last wv o
 exact H.keep a (d p hp) id
theorem aj.more(h:aj U w kb mb sb pb qb bb tb F K wv)(a:Zq wv w2)(hb:w2.heap[b]?=some o)(c:wv.heap.size<=b):aj U w kb mb sb pb qb bb tb ((b,o)::F) K w2:=by
 have⟨⟨V,h1,d,e⟩,f,g⟩:=h;refine⟨⟨_,λk hk=>Or.inl (h1 k hk),λp hp=>?_,e.wide a⟩,λp hp=>?_,g.trans (a.f)⟩
 ·rcases List.mem_cons.1 hp with rfl|hp
  ·exact Or.inr ⟨c,aB hb⟩
  exact Or.inl (d p hp)
 rcases List.mem_cons.1 hp with rfl|hp
 ·exact hb
 exact H.keep a (f p hp) id
theorem aj.at(h:aj U w kb mb sb pb qb bb tb F K wv)(hm:(b,o)∈F):wv.heap[b]?=some o:=h.f _ hm
section
variable {K2:Kn}
theorem aj.call(h:aj U w kb mb sb pb qb bb tb F K wv){f:FuncId}(c:∀V,au V wv kb mb sb pb qb bb tb K->Zk f args wv λe w'=>Zr e v/\au V w' kb mb sb pb qb bb tb K2/\Zn V wv w'):
  Zk f args wv λe w'=>Zr e v/\Hid (aj U w kb mb sb pb qb bb tb F K2 w'):=by
 have⟨⟨V,h1,a,d⟩,g,i⟩:=h;refine(c V d).m ?_;rintro e w' ⟨rfl,j,b⟩;exact⟨rfl,⟨V,h1,a,j⟩,λp hp=>H.keep b (g p hp) (λh=>h (a p hp)),i.trans (b.mono (λk _ l m=>l (h1 k m)))⟩
end
theorem aj.read(h:aj U w kb mb sb pb qb bb tb F K wv){f:FuncId}(a:∀V,au V wv kb mb sb pb qb bb tb K->Zk f args wv λe w'=>Zr e v/\Zq wv w'):
  Zk f args wv λe w'=>Zr e v/\Hid (aj U w kb mb sb pb qb bb tb F K w'):=by
 have⟨⟨V,h1,d,b⟩,g,i⟩:=h;refine(a V b).m ?_;rintro e w' ⟨rfl,c⟩;exact⟨rfl,h.quiet c⟩
theorem aj.fin(h:aj U w kb mb sb pb qb bb tb F K wv):au U wv kb mb sb pb qb bb tb K/\Zn U w wv:=by
 have⟨⟨V,h1,c,a⟩,d,b⟩:=h;exact⟨a.thin h1,b⟩
theorem aj.c(h:aj U w kb mb sb pb qb bb tb F K wv):wv.cell? (E kb 0)=some (M mb)/\wv.cell? (E kb 1)=some (M sb)/\wv.cell? (E kb 2)=some (M pb)/\wv.cell? (E kb 3)=some (M qb)/\wv.cell? (E kb 4)=some (M bb)/\wv.cell? (E kb 5)=some (.map (some tb)):=by
 have⟨⟨V,h1,b,a⟩,c,d⟩:=h;exact⟨a.c0,a.c1,a.c2,a.c3,a.c4,a.c5⟩
theorem aj.two(h:aj U w kb mb sb pb qb bb tb F K wv)(hm:(b,.cells #[a0,a1] T (0,0))∈F):wv.cell? (E b 0)=some a0/\wv.cell? (E b 1)=some a1:=⟨(cell_of_row _ _ 0 _ _ (0,0) (h.at hm)).trans rfl,(cell_of_row _ _ 1 _ _ (0,0) (h.at hm)).trans rfl⟩
theorem aj.three(h:aj U w kb mb sb pb qb bb tb F K wv)(hm:(b,.cells #[a0,a1,a2] T (0,0))∈F):wv.cell? (E b 0)=some a0/\wv.cell? (E b 1)=some a1/\wv.cell? (E b 2)=some a2:=⟨(cell_of_row _ _ 0 _ _ (0,0) (h.at hm)).trans rfl,(cell_of_row _ _ 1 _ _ (0,0) (h.at hm)).trans rfl,(cell_of_row _ _ 2 _ _ (0,0) (h.at hm)).trans rfl⟩
theorem aj.Es(h:aj U w kb mb sb pb qb bb tb F K wv)(hm:(b,.cells cs.toArray T (0,0))∈F)(j):wv.cell? (E b j)=cs[j]?:=(cell_of_row _ _ j _ _ (0,0) (h.at hm)).trans (by simp)
theorem au.zero(h:au U w kb mb sb pb qb bb tb K)(p):Zk 124 #[M mb,O p] w λe w'=>Zr e (O ((tV K.f K.n p).2:Nat))/\au U w' kb mb sb pb qb bb tb {K with f:=(tV K.f K.n p).1}/\Zn U w w':=
 aN.call h 1 rfl (ki.dF mb K.n (tV K.f K.n p).1) (λb a=>acg a p)
theorem au.write(h:au U w kb mb sb pb qb bb tb K)(a s):Zk 87 #[M mb,O a,.string ⟨s.toArray⟩] w λe w'=>Zr e (O ((yq K.f K.n a s).2:Nat))/\au U w' kb mb sb pb qb bb tb {K with f:=(yq K.f K.n a s).1}/\Zn U w w':=
 aN.call h 1 rfl (ki.dF mb K.n (yq K.f K.n a s).1) (λc b=>acX b a s)
theorem au.table(h:au U w kb mb sb pb qb bb tb K)(root)(va:Nat)(hv:va<4294967296)(t):Zk 223 #[M mb,O root,J (va:Int),O t] w λe w'=>Zr e (O ((ly K.f K.n root va t).2:Nat))/\au U w' kb mb sb pb qb bb tb {K with f:=(ly K.f K.n root va t).1}/\Zn U w w':=
 aN.call h 1 rfl (ki.dF mb K.n (ly K.f K.n root va t).1) (λa b=>ah3 b root va hv t)
theorem au.map(h:au U w kb mb sb pb qb bb tb K)(root)(va:Nat)(hv:va<4294967296)(fr r):Zk 224 #[M mb,O root,J (va:Int),O fr,O r] w λe w'=>Zr e (O ((j8 K.f K.n root va fr r).2:Nat))/\au U w' kb mb sb pb qb bb tb {K with f:=(j8 K.f K.n root va fr r).1}/\Zn U w w':=
 aN.call h 1 rfl (ki.dF mb K.n (j8 K.f K.n root va fr r).1) (λa b=>ajB b root va hv fr r)
theorem au.make(h:au U w kb mb sb pb qb bb tb K)(num n)(hn:af num)(b:K.bs.length<1000000):Zk 125 #[M sb,O num,O n] w λe w'=>Zr e (O (mM K.bs num n))/\au U w' kb mb sb pb qb bb tb {K with bs:=kL K.bs num n}/\Zn U w w':=
 aN.call h 0 rfl (nk.dF sb (kL K.bs num n) K.es) (λc a=>acH a num n hn b)
theorem au.put(h:au U w kb mb sb pb qb bb tb K)(a c f)(ha:af a.1)(b:af f.1)(d:af c.num)(hg:ot c)(hlen:K.es.length<1000000):Zk 90 #[M sb,.agg #[O a.1,O a.2],bz c,.agg #[O f.1,O f.2]] w λe w'=>Zr e (O (fU K.bs K.es a c f))/\au U w' kb mb sb pb qb bb tb {K with es:=iQ K.bs K.es a c f}/\Zn U w w':=
 aN.call h 0 rfl (nk.dF sb K.bs (iQ K.bs K.es a c f)) (λg x=>acw x a c f ha b d hg hlen)
theorem au.set(h:au U w kb mb sb pb qb bb tb K)(s)(hb:af s.1)(c)(hg:ot c):Zk 137 #[M sb,.agg #[O s.1,O s.2],bz c] w λe w'=>Zr e (O (wM K.bs K.es s c))/\au U w' kb mb sb pb qb bb tb {K with es:=gO K.bs K.es s c}/\Zn U w w':=
 aN.call h 0 rfl (nk.dF sb K.bs (gO K.bs K.es s c)) (λa x=>aco x s hb c hg)
theorem au.get(h:au U w kb mb sb pb qb bb tb K)(s)(hb:af s.1):Zk 55 #[M sb,.agg #[O s.1,O s.2]] w λe w'=>Zr e (.tuple #[bz (aI K.bs K.es s).1,O (aI K.bs K.es s).2])/\Zq w w':=by
 have⟨b,a⟩:=h.caps;exact UM a s hb
theorem au.ame(h:au U w kb mb sb pb qb bb tb K)(o):Zk 222 #[M sb,.agg #[O o.1,O o.2]] w λe w'=>∃v,Zr e v/\ax dG w' w.heap.size 45 v (gE K.es o)/\Zq w w':=by
 have⟨b,a⟩:=h.caps;exact acL a o
theorem au.add(h:au U w kb mb sb pb qb bb tb K)(k n)(hk:af k)(hn:af n):Zk 84 #[M pb,.agg #[O k,O n]] w λe w'=>Zr e (O (iZ K.n K.os K.rs (k,n)))/\au U w' kb mb sb pb qb bb tb {K with os:=lR K.n K.os K.rs (k,n),rs:=oV K.n K.os K.rs (k,n)}/\Zn U w w':=
 aN.call h 2 rfl (oW.dF pb (K.n:Int) (lR K.n K.os K.rs (k,n)) (oV K.n K.os K.rs (k,n))) (λb a=>acA a k n hk hn)
theorem au.mark(h:au U w kb mb sb pb qb bb tb K)(n)(hn:af n):Zk 127 #[M pb,O n] w λe w'=>Zr e (.tuple #[O (nE K.rs n).1,O (nE K.rs n).2])/\Zq w w':=by
 have⟨b,a⟩:=h.Qk;exact acy a n hn
theorem au.at'(h:au U w kb mb sb pb qb bb tb K)(q)(b:af q):Zk 129 #[M pb,O q] w λe w'=>Zr e (.tuple #[.agg #[O (atR K.n K.os q).1.1,O (atR K.n K.os q).1.2],O (atR K.n K.os q).2])/\Zq w w':=by
 have⟨c,a⟩:=h.Qk;exact acz a q b
theorem au.W9(h:au U w kb mb sb pb qb bb tb K)(n)(hn:af n)(b)(c:K.b.ps.length<1000000):Zk 126 #[M bb,O n,.bool b] w λe w'=>Zr e (O (zQ K.b n))/\au U w' kb mb sb pb qb bb tb {K with b:=qm K.b n b}/\Zn U w w':=
 aN.call h 4 rfl (re.dF bb (qm K.b n b)) (λd a=>acC a c n hn b)
theorem au.UW(h:au U w kb mb sb pb qb bb tb K):ie (K.n:Int) K.os K.rs:=by
 have⟨b,a⟩:=h.Qk;exact a.wf
theorem aj.low(h:aj U w kb mb sb pb qb bb tb F K wv):∀k,U k->k<wv.heap.size:=by
 have⟨⟨V,h1,b,a⟩,_,_⟩:=h;exact λk hk=>aN.ul a k (h1 k hk)
theorem aj.tail{p:Nat×Obj}(h:aj U w kb mb sb pb qb bb tb (p::F) K wv):aj U w kb mb sb pb qb bb tb F K wv:=by
 have⟨⟨V,h1,b,c⟩,d,e⟩:=h;exact⟨⟨V,h1,λq a=>b q (List.mem_cons_of_mem _ a),c⟩,λq a=>d q (List.mem_cons_of_mem _ a),e⟩
theorem aj.rh(h:aj U w kb mb sb pb qb bb tb ((b,o)::F) K wv)(c:H (λk=>k=b) wv w2)(hb:w2.heap[b]?=some o2)(e:¬U b)(f:∀p∈F,p.1≠b):aj U w kb mb sb pb qb bb tb ((b,o2)::F) K w2:=by
 have⟨⟨V,h1,d,g⟩,i,j⟩:=h;refine⟨⟨V,h1,λq a=>?_,jX.j (aN.dF _) g c (λk _ hk=>by subst hk;exact d _ List.mem_cons_self)⟩,λq a=>?_,j.trans (c.mono (λk _ hk=>by subst hk;exact e))⟩
 ·rcases List.mem_cons.1 a with rfl|a
  ·exact d (b,o) List.mem_cons_self
  exact d q (List.mem_cons_of_mem _ a)
 rcases List.mem_cons.1 a with rfl|a
 ·exact hb
 exact H.keep c (i q (List.mem_cons_of_mem _ a)) (f q a)
theorem aj.l9(h:aj U w kb mb sb pb qb bb tb ((ub,.cells jd.toArray 84 (0,0))::F) K wv)(u)(a:¬U ub)(b:∀p∈F,p.1≠ub):aj U w kb mb sb pb qb bb tb ((ub,.cells (bj u).toArray 84 (0,0))::F) K (wv.setCells ub 0 (bj u)):=by
 have⟨h1,c⟩:=vB (bj u) [] jd wv rfl (h.at List.mem_cons_self);exact h.rh c h1 a b
structure fA(w:Z0)(kb mb sb pb qb bb tb:Nat)(F:List (Nat×Obj))(K:Kn)(wv:Z0):Prop where
 k:∃V:Z1,(∀p∈F,V p.1)/\au V wv kb mb sb pb qb bb tb K
 f:∀p∈F,w.heap.size<=p.1/\wv.heap[p.1]?=some p.2
 o:Zq w wv
theorem fA.start(h:au U w kb mb sb pb qb bb tb K):fA w kb mb sb pb qb bb tb [] K w:=⟨⟨U,λp hp=>(by cases hp),h⟩,λp hp=>(by cases hp),H.refl _ _⟩
theorem fA.quiet(h:fA w kb mb sb pb qb bb tb F K wv)(a:Zq wv w2):fA w kb mb sb pb qb bb tb F K w2:=by
 have⟨⟨V,c,d⟩,b,e⟩:=h;exact⟨⟨V,c,d.quiet a⟩,λp hp=>⟨(b p hp).1,H.keep a (b p hp).2 id⟩,e.trans a⟩
theorem fA.drew(h:fA w kb mb sb pb qb bb tb F K wv):fA w kb mb sb pb qb bb tb F K wv.drew:=h.quiet ((H.refl _ _).drew)
theorem fA.alloc(h:fA w kb mb sb pb qb bb tb F K wv)(o):fA w kb mb sb pb qb bb tb ((wv.heap.size,o)::F) K (wv.alloc o):=by
 have⟨⟨V,d,e⟩,b,c⟩:=h;have a:Zq wv (wv.alloc o):=(H.refl _ wv).alloc o;refine⟨⟨_,λp hp=>?_,e.wide a⟩,λp hp=>?_,c.trans a⟩
 ·rcases List.mem_cons.1 hp with rfl|hp
  ·exact Or.inr ⟨Nat.le_refl _,by simp⟩
  exact Or.inl (d p hp)
 rcases List.mem_cons.1 hp with rfl|hp
 ·exact⟨c.size,heap_alloc_last wv o⟩
 exact⟨(b p hp).1,H.keep a (b p hp).2 id⟩
theorem fA.at(h:fA w kb mb sb pb qb bb tb F K wv)(hm:(b,o)∈F):wv.heap[b]?=some o:=(h.f _ hm).2
theorem fA.two(h:fA w kb mb sb pb qb bb tb F K wv)(hm:(b,.cells #[a0,a1] T (0,0))∈F):wv.cell? (E b 0)=some a0/\wv.cell? (E b 1)=some a1:=⟨(cell_of_row _ _ 0 _ _ (0,0) (h.at hm)).trans rfl,(cell_of_row _ _ 1 _ _ (0,0) (h.at hm)).trans rfl⟩
theorem fA.read(h:fA w kb mb sb pb qb bb tb F K wv){f:FuncId}(a:∀V,au V wv kb mb sb pb qb bb tb K->Zk f args wv λe w'=>Zr e v/\Zq wv w'):
  Zk f args wv λe w'=>Zr e v/\Hid (fA w kb mb sb pb qb bb tb F K w'):=by
 have⟨⟨V,d,b⟩,g,i⟩:=h;refine(a V b).m ?_;rintro e w' ⟨rfl,c⟩;exact⟨rfl,h.quiet c⟩
theorem fA.c(h:fA w kb mb sb pb qb bb tb F K wv):wv.cell? (E kb 0)=some (M mb)/\wv.cell? (E kb 1)=some (M sb)/\wv.cell? (E kb 2)=some (M pb)/\wv.cell? (E kb 3)=some (M qb)/\wv.cell? (E kb 4)=some (M bb)/\wv.cell? (E kb 5)=some (.map (some tb)):=by
 have⟨⟨V,b,a⟩,c,d⟩:=h;exact⟨a.c0,a.c1,a.c2,a.c3,a.c4,a.c5⟩
theorem fA.rh(h:fA w kb mb sb pb qb bb tb ((b,o)::F) K wv)(d:H (λk=>k=b) wv w2)(hb:w2.heap[b]?=some o2)(f:∀p∈F,p.1≠b):fA w kb mb sb pb qb bb tb ((b,o2)::F) K w2:=by
 have⟨⟨V,e,g⟩,c,i⟩:=h;refine⟨⟨V,λq a=>?_,jX.j (aN.dF _) g d (λk _ hk=>by subst hk;exact e _ List.mem_cons_self)⟩,λq a=>?_,i.beyond d (λk hk=>by subst hk;exact(c _ List.mem_cons_self).1)⟩
 ·rcases List.mem_cons.1 a with rfl|a
  ·exact e (b,o) List.mem_cons_self
  exact e q (List.mem_cons_of_mem _ a)
 rcases List.mem_cons.1 a with rfl|a
 ·exact⟨(c (b,o) List.mem_cons_self).1,hb⟩
 exact⟨(c q (List.mem_cons_of_mem _ a)).1,H.keep d (c q (List.mem_cons_of_mem _ a)).2 (f q a)⟩
def p4:List Value:=[O 0,O 0]
theorem alE:(prog.info? 71).map (·.size)=some 2:=Zx
theorem fA.wL(h:fA w kb mb sb pb qb bb tb ((ub,.cells p4.toArray 71 (0,0))::F) K wv)(u)(a:∀p∈F,p.1≠ub):fA w kb mb sb pb qb bb tb ((ub,.cells (eL u).toArray 71 (0,0))::F) K (wv.setCells ub 0 (eL u)):=by
 have⟨h1,b⟩:=vB (eL u) [] p4 wv rfl (h.at List.mem_cons_self);exact h.rh b h1 a
theorem VG{o:Oper}{K:Act->World->Prop}(x y)(b:o.op=.store 71 x y)(c:o.dst=none){u:Sl}(d:act.eval x=M ub)(hy:act.eval y=.agg (eL u).toArray)(a:w.heap[ub]?=some (.cells p4.toArray 71 (0,0)))(h:K act (w.setCells ub 0 (eL u))):Oper.wp prog o act w K Q:=by
 have ht:w.there ub 0 (eL u).toArray.size:=λj e=>by
  refine⟨?_,fX a _⟩;rw[Nat.zero_add,cell_of_row _ _ j _ _ (0,0) a,List.getElem?_toArray,List.getElem?_eq_getElem (show j<p4.length from e)];rfl
 refine wp_store_mid 71 x y b ub 0 _ d hy ht (by rw[alE];rfl) (all_oneCell_toArray (λv hv=>dG.one u v hv)) ?_;rwa[c]
theorem MK(h:au U w kb mb sb pb qb bb tb K)(a o2)(hi:af o2):Zk 86 #[M kb,.agg #[O a,O o2]] w λe w'=>Zr e (.bool (dJ K.os K.rs (a,o2)))/\Zq w w':=by
 have⟨w1,c⟩:=Ze (w.alloc (.cells #[O a,O o2] 71));have⟨ob,d⟩:=Ze (w.heap.size);have b:Hid (fA w kb mb sb pb qb bb tb [(ob,.cells #[O a,O o2] 71 (0,0))] K w1):=by rw[c,d];exact(fA.start h).alloc _
 have hp:=h.UW;have q:=Y (λF wv(h:fA w kb mb sb pb qb bb tb F K wv)=>h.read (λV h=>h.at' o2 hi));have r:=Y (λF wv(h:fA w kb mb sb pb qb bb tb F K wv)=>h.read (λV h=>h.mark o2 hi));have⟨R,T⟩:=b.j.two List.mem_cons_self;by_cases y:a=0
 ·subst y;rw[apA hp];go_enter func86,ntmps86;go_upto_region 1 with fail
  rw[<-c,<-d];clear c d;go_wp2_with fail
  all_goals
   go_ret;exact⟨rfl,b.j.o⟩
 by_cases z:a=1
 ·subst z;rw[apz hp];have i:Hid (Zc w1.drew kb 2 (M pb)/\Zc w1.drew ob 1 (O o2)):=⟨b.j.drew.c.2.2.1,(b.j.drew.two List.mem_cons_self).2⟩
  have aK:=i;have az:Hid (∀F wv,fA w kb mb sb pb qb bb tb ((ob,.cells #[O 1,O o2] 71 (0,0))::F) K wv->Zc wv kb 2 (M pb)/\Zc wv ob 1 (O o2)):=λF wv h=>⟨h.c.2.2.1,(h.two List.mem_cons_self).2⟩
  have s:=Y (r.j _ _ b.j.drew);obtain⟨m2,W⟩:=Ze ((nE K.rs o2).2);obtain⟨m1,gn⟩:=Ze ((nE K.rs o2).1);rw[<-W,<-gn] at s;rw[<-W];clear hp q r gn W;go_enter func86,ntmps86;go_upto_region 1 with fail
  rw[<-c,<-d];clear c d;go_upto_region 5 with fail
  clear R T;go_region_held3 (λwv=>Zc wv kb 2 (M pb)/\Zc wv ob 1 (O o2)) (with_reducible (first|exact i.j|exact aK.j)) (first|(go_at_call 127;refine s.j.m ?_;rintro e w2 ⟨rfl,g⟩;have aK:=Y (az.j _ _ g.j)));go_wp2_with fail
  all_goals
   go_ret;exact⟨rfl,g.j.o⟩
 by_cases A:a=9
 ·subst A;have e1:dJ K.os K.rs (9,o2)=decide (0<=o2/\o2<8):=by unfold dJ;rw[if_pos (Or.inl rfl)]
  rw[e1];have t:=Y (λw=>Yf o2 w);obtain⟨B,j⟩:=Ze (decide (0<=o2/\o2<8));rw[<-j] at t|-;clear hp q r j e1;go_enter func86,ntmps86;go_upto_region 1 with fail
  rw[<-c,<-d];clear c d;go_wp2_with fail;refine(t.j _).e1 ?_;go_wp2_with fail
  all_goals
   go_ret;exact⟨rfl,b.j.o⟩
 by_cases C:a=10
 ·subst C;have e1:dJ K.os K.rs (10,o2)=decide (0<=o2/\o2<8):=by unfold dJ;rw[if_pos (Or.inr rfl)]
  rw[e1];have t:=Y (λw=>aln o2 w);obtain⟨B,j⟩:=Ze (decide (0<=o2/\o2<8));rw[<-j] at t|-;clear hp q r j e1;go_enter func86,ntmps86;go_upto_region 1 with fail
  rw[<-c,<-d];clear c d;go_wp2_with fail;refine(t.j _).e1 ?_;go_wp2_with fail
  all_goals
   go_ret;exact⟨rfl,b.j.o⟩
 rw[apB hp y z A C];have n0:(a==0)=false:=by simpa using y
 have n1:(a==1)=false:=by simpa using z
 have n9:(a==9)=false:=by simpa using A
 have n10:(a==10)=false:=by simpa using C
 obtain⟨u,hu⟩:=Ze ((atR K.n K.os o2).1);obtain⟨D,pJ⟩:=Ze ((atR K.n K.os o2).2);have X:=q;rw[<-hu,<-pJ] at X|-;obtain⟨B,j⟩:=Ze (((D==0)&&decide (u=(a,o2))));rw[<-j];have N:=Y j;obtain⟨F,hF⟩:∃F:List (Nat×Obj),F=[(ob,.cells #[O a,O o2] 71 (0,0))]:=⟨_,rfl⟩
 rw[<-hF] at b;have HM:Hid ((ob,.cells #[O a,O o2] 71 (0,0))∈F):=by rw[hF];exact List.mem_cons_self
 have m:Hid (∀G wv,fA w kb mb sb pb qb bb tb (G++F) K wv->Zc wv kb 2 (M pb)/\Zc wv ob 1 (O o2)):=λG wv h=>⟨h.c.2.2.1,(h.two (List.mem_append_right _ HM.j)).2⟩
 clear hp q r hu pJ hF y z A C j;go_enter func86,ntmps86;go_upto_region 1 with fail
 rw[<-c,<-d];clear c d;obtain⟨w2,aL⟩:=Ze (w1);rw[<-aL] at b R T|-;clear aL;go_upto_region 11 with fail
 go_cut [7,8] from 37 to 46 (λc7 c8 wx=>∃ub,c7=M ub/\c8=O D/\Hid (fA w kb mb sb pb qb bb tb ((ub,.cells (eL u).toArray 71 (0,0))::F) K wx)/\Hid (∀p∈F,p.1≠ub))
 case first=>
  have fg:=Y b.j.drew;have i:=Y (m.j [] _ fg.j);obtain⟨wA,P⟩:=Ze ((w2.alloc (.cells #[O 0,O 0] 71)).drew);obtain⟨ub,l⟩:=Ze (w2.heap.size);have sq:Hid (fA w kb mb sb pb qb bb tb ((ub,.cells p4.toArray 71 (0,0))::F) K wA):=by rw[P,l];exact(b.j.alloc _).drew
  have fI:=Y (m.j [_] _ sq.j);have n:Hid (∀p∈F,p.1≠ub):=λp hp he=>by have:=aB (b.j.f p hp).2;omega
  refine lY (S:=(λwv=>wv.cell? (E kb 2)=some (M pb)/\wv.cell? (E ob 1)=some (O o2))) Zx ?_;simp only[List.size_toArray,List.length_cons,List.length_nil,Nat.zero_add,Nat.reduceAdd];refine Zt 0 i.j ?_;refine Zt 1 i.j ?_;refine Zt 2 i.j ?_;refine Zt 3 i.j ?_;refine Zt 4 i.j ?_;refine Zt 5 i.j ?_;refine wpAnyH_ready (rs:=[6,10]) Zx (by simp) ?_;refine(AllReadyH.cons Zg (λK f=>?_) (AllReadyH.cons Zg (λK f=>?_) AllReadyH.nil))
  ·as_aux_lemma=>
    refine dc rfl 129 #[Operand.tmp 41,Operand.tmp 43] #[93,3] rfl #[M pb,O o2] (by first|rfl|simp[Act.eval,go_sem]) (by simp[go_sem]) (X.j _ _ fg.j) ?_;rintro e w3 ⟨rfl,g⟩;have k:=Y (m.j [] _ g.j);clear l P sq fI n;obtain⟨ub,l⟩:=Ze (w3.heap.size);obtain⟨wB,jR⟩:=Ze (w3.alloc (.cells #[O 0,O 0] 71));have Q:=Y (g.j.alloc (.cells #[O 0,O 0] 71 (0,0)));rw[<-jR,<-l] at Q;have EN:=Y (m.j [_] _ Q.j);have n:Hid (∀p∈F,p.1≠ub):=λp hp he=>by have:=aB (g.j.f p hp).2;omega
    have v:=Y (fA.wL Q.j u n.j);have x:=Y (m.j [_] _ v.j);have pV:=Y (Q.j.at List.mem_cons_self);refine⟨_,rfl,?_⟩;refine Zb f k.j ?_;refine Zt 7 k.j ?_;refine Zt 8 k.j ?_;refine Zt 9 k.j ?_;refine Zy 10 (λK f=>?_);go_simp;rw[<-jR,<-l];clear jR l;refine Zb f EN.j ?_;refine Zy 11 (λK f=>?_);refine VG (.tmp 7) (.tmp 45) rfl rfl (u:=u) (ub:=ub) (by simp[Act.eval]) (by simp[Act.eval,bz,eL]) pV.j ?_;refine Zb f x.j ?_;refine Zt 12 x.j ?_;refine wpAnyH_done Zx ?_ _
    go_wp2
    go_meet;exact⟨_,rfl,rfl,v.j,n.j⟩
  as_aux_lemma=>
   go_simp;rw[<-P,<-l];clear P l;refine Zb f fI.j ?_;refine Zy 6 (λK f=>?_);refine dc rfl 129 #[Operand.tmp 41,Operand.tmp 43] #[93,3] rfl #[M pb,O o2] (by first|rfl|simp[Act.eval,go_sem]) (by simp[go_sem]) (X.j _ _ sq.j) ?_;rintro e w3 ⟨rfl,g⟩;have k:=Y (m.j [_] _ g.j);have v:=Y (fA.wL g.j u n.j);have x:=Y (m.j [_] _ v.j);have pV:=Y (g.j.at List.mem_cons_self);refine⟨_,rfl,?_⟩;refine Zb f k.j ?_;refine Zt 7 k.j ?_;refine Zt 8 k.j ?_;refine Zt 9 k.j ?_;refine Zy 11 (λK f=>?_);refine VG (.tmp 7) (.tmp 45) rfl rfl (u:=u) (ub:=ub) (by simp[Act.eval]) (by simp[Act.eval,bz,eL]) pV.j ?_;refine Zb f x.j ?_;refine Zt 12 x.j ?_;refine wpAnyH_done Zx ?_ _
   go_wp2
   go_meet;exact⟨_,rfl,rfl,v.j,n.j⟩
 case rest=>
  obtain⟨ub,rfl,rfl,o,Ll⟩:=hcut;obtain⟨u1,u2⟩:=u;obtain⟨d0,d1⟩:=o.j.two (a0:=O u1) (a1:=O u2) List.mem_cons_self;obtain⟨R,T⟩:=o.j.two (List.mem_cons_of_mem _ HM.j);by_cases g0:D=0
  ·subst g0;by_cases g1:u1=a
   ·by_cases g2:u2=o2
    ·subst g1 g2;obtain rfl:B=true:=by rw[N.j,decide_eq_true (rfl:(u1,u2)=(u1,u2))];rfl
     go_wp2_with fail
     all_goals
      go_ret;exact⟨rfl,o.j.o⟩
    have g3:(u2==o2)=false:=by simpa using g2
    obtain rfl:B=false:=by rw[N.j,decide_eq_false (λh:(u1,u2)=(a,o2)=>g2 (by injection h))];rfl
    subst g1;go_wp2_with fail
    all_goals
     go_ret;exact⟨rfl,o.j.o⟩
   have g3:(u1==a)=false:=by simpa using g1
   obtain rfl:B=false:=by rw[N.j,decide_eq_false (λh:(u1,u2)=(a,o2)=>g1 (by injection h))];rfl
   go_wp2_with fail
   all_goals
    go_ret;exact⟨rfl,o.j.o⟩
  have g3:(D==0)=false:=by simpa using g0
  obtain rfl:B=false:=by rw[N.j,g3];rfl
  go_wp2_with fail
  all_goals
   go_ret;exact⟨rfl,o.j.o⟩
theorem Q7(x:Kt):∀T:List Kt,(oG x T).Perm (x::T)
 |[]=>List.Perm.refl _
 |y::r=>by
  unfold oG
  split
  ·exact List.Perm.refl _
  exact((Q7 x r).cons y).trans (List.Perm.swap x y r)
theorem alw(x T):(oG x T).length=T.length+1:=(Q7 x T).length_eq
def Still(T:List Kt):Prop:=∀t∈T,t.dV= -1/\t.dD= -1
theorem aep{t:Kt}(h:t.dV= -1/\t.dD= -1):cG G2 t=cG G t:=by
 unfold cG lx;rw[h.1,h.2];rfl
def Ds(n:Int):List Value:=[O n,O 0]++(ny .u32 (λ_=>0)++[J 0,.pointer none,.pointer none,.bool false])
theorem aeu(G n):cG G (qq n)=Ds n:=rfl
theorem au.aiq(h:au U w kb mb sb pb qb bb tb K)(r:Still K.T)(N:K.T.length<1000)(hn:af n)(l:n∉K.T.map (·.num)){g:Nat}(hg:w1.heap[g]?=some (.cells (Ds n).toArray 109 (0,0)))(P:w.heap.size<=g)(d:Zq w w1):
  ∃w3,(Instr.mapUpdate 96 (.map (some tb)) (O n) (M g)).run prog w1=.ok () w3/\au U w3 kb mb sb pb qb bb tb {K with T:=oG (qq n) K.T}/\Zn U w w3:=by
 have⟨m,⟨D,o,G,a⟩,u,p,v⟩:=aN.open h 5 rfl;have x:o.length=K.T.length:=by rw[a.kt.length_eq,List.length_map]
 have ZT:n∉o:=λy=>l (a.kt.mem_iff.1 y);have⟨w3,z,A,i⟩:=(a.m.keep d id).put (t:=96) (e:=106) underlying96 (by rw[x];unfold maxLen;omega) n hn ZT g;have B:=i.size;have Q:=d.size;have j:∀{b:Nat} {c:Array Value} {T:TypeId} {fr:Nat×Nat},w1.heap[b]?=some (.cells c T fr)->w3.heap[b]?=some (.cells c T fr):=λhb=>(i.block _ (aB hb) ((a.m.keep d id).ne hb)).trans hb;have f:∀t∈K.T,t.num≠n:=λt ht e=>l (e▸List.mem_map.2 ⟨t,ht,rfl⟩);have q:∀t∈K.T,G t.num<w.heap.size:=λt ht=>aB (a.th t ht);have C:qQ kb mb sb pb qb bb tb (oG (qq n) K.T) K.L K.ci K.co K.c m w3:=by
  refine⟨_,_,_,j (H.keep d a.k id),A,?_,λt ht=>?_,λt ht s hs e=>?_,a.uk,a.um,λt ht=>?_,λk hk=>by have:=p k hk;omega,by rw[alw];omega⟩
  ·refine((a.kt.append_right [n]).trans ?_);refine(List.perm_append_comm).trans ?_;exact((Q7 (qq n) K.T).map (·.num)).symm
  ·rcases DN.1 ht with rfl|ht
   ·rw[show(qq n).num=n from rfl,Bt,aeu];exact j hg
   rw[yH _ _ (f t ht),aep (G:=G) (r t ht)];exact j (H.keep d (a.th t ht) id)
  ·rcases DN.1 ht with rfl|ht<;>rcases DN.1 hs with rfl|hs
   ·rfl
   ·rw[show(qq n).num=n from rfl,Bt,yH _ _ (f s hs)] at e;have:=q s hs;omega
   ·rw[show(qq n).num=n from rfl,Bt,yH _ _ (f t ht)] at e;have:=q t ht;omega
   rw[yH _ _ (f t ht),yH _ _ (f s hs)] at e;exact a.gi t ht s hs e
  rcases DN.1 ht with rfl|ht
  ·rw[show(qq n).num=n from rfl,Bt];intro hu;have:=p g hu;omega
  rw[yH _ _ (f t ht)];exact a.ut t ht
 have F:Zn m w w3:=(d.f).trans (i.mono (λk _ hk=>by subst hk;exact a.um));exact⟨w3,z,v _ w3 qQ.dF C F⟩
theorem afV(n w):(Instr.build 109 #[(0,O n)]).run prog w=.ok (.agg (Ds n).toArray) w:=Zx
theorem ap6{o:Oper}(x)(b:o.op=.build 109 #[(0,x)])(d:act.eval x=O n):(execOp act.eval o).run prog w=.ok (.value (.agg (Ds n).toArray)) w:=by
 have a:=afV n w;generalize (Ds n).toArray=c at a;simp only[execOp,b];simp[d,a,Result.andThen]
theorem aba(h:au U w kb mb sb pb qb bb tb K)(kr:K.bs.length<1000000)(R3:K.b.ps.length<1000000)(al:K.T.length<1000)(bV:Still K.T)(k n size:Int)(hn:af n)(cr:k=6->n∉K.T.map (·.num)):Zk 85 #[M kb,.agg #[O k,O n],O size] w λe w'=>Zr e (.tuple #[])/\au U w' kb mb sb pb qb bb tb (if k=1 then K else xM K (k,n) size)/\Zn U w w':=by
 have⟨w1,t⟩:=Ze (w.alloc (.cells #[O k,O n] 71));have⟨ob,u⟩:=Ze (w.heap.size);have x:Hid (aj U w kb mb sb pb qb bb tb [(ob,.cells #[O k,O n] 71 (0,0))] K w1):=by rw[t,u];exact(aj.start h).alloc _
 have⟨q,r⟩:=x.j.two List.mem_cons_self;by_cases C:k=1
 ·subst C;rw[if_pos rfl];go_enter func85,ntmps85;go_upto_region 1 with fail
  rw[<-t,<-u];clear t u;go_wp2_with fail;all_goals
   (try simp only[Exit.inBlock,Exit.then])
   refine bodyPost_ret (results_none rfl _ _ _) rfl ?_;exact⟨rfl,x.j.fin⟩
 rw[if_neg C];have n1:(k==1)=false:=by simpa using C
 obtain⟨c,D⟩:=Ze ({K with f:=(tV K.f K.n n).1});have X:Hid (∀F wv,aj U w kb mb sb pb qb bb tb F K wv->Zk 124 #[M mb,O n] wv λe w'=>Zr e (O ((tV K.f K.n n).2:Nat))/\Hid (aj U w kb mb sb pb qb bb tb F c w')):=λF wv h=>by rw[D];exact h.call (λV h=>h.zero n)
 have j:Hid (∀F K' wv,aj U w kb mb sb pb qb bb tb ((ob,.cells #[O k,O n] 71 (0,0))::F) K' wv->(Zc wv kb 0 (M mb)/\Zc wv ob 1 (O n))/\(Zc wv kb 1 (M sb)/\Zc wv ob 1 (O n))/\(Zc wv kb 4 (M bb)/\Zc wv ob 1 (O n)/\Zc wv ob 0 (O k))/\(Zc wv kb 5 (.map (some tb))/\Zc wv ob 1 (O n))):=λF K' wv h=>⟨⟨h.c.1,(h.two List.mem_cons_self).2⟩,⟨h.c.2.1,(h.two List.mem_cons_self).2⟩,⟨h.c.2.2.2.2.1,(h.two List.mem_cons_self).2,(h.two List.mem_cons_self).1⟩,⟨h.c.2.2.2.2.2,(h.two List.mem_cons_self).2⟩⟩
 have y:Hid (xM K (k,n) size=(if k=5 then {c with bs:=kL c.bs n size} else if k=6 then {c with bs:=kL c.bs n 4,T:=oG (qq n) c.T} else if k=7\/k=8 then {c with b:=qm c.b n (decide (k=8))} else c)):=by rw[D];rfl
 have o:Hid (c.bs.length<1000000/\c.b.ps.length<1000000/\c.T.length<1000/\Still c.T/\(k=6->n∉c.T.map (·.num))):=by rw[D];exact⟨kr,R3,al,bV,cr⟩
 have z:=Y hn;obtain⟨KE,aJ⟩:=Ze (xM K (k,n) size);rw[<-aJ];have l:=Y (aJ.trans y.j);obtain⟨ez,A⟩:=Ze (((tV K.f K.n n).2:Nat):Int);rw[<-A] at X;have a:=Y (j.j _ _ _ x.j.drew).1;have d:=a;have B:=Y (X.j _ _ x.j.drew);clear kr R3 al bV hn cr D y A C X aJ;go_enter func85,ntmps85;go_upto_region 1 with fail
 rw[<-t,<-u];clear t u;go_upto_region 2 with fail
 clear q r;go_region_held3 (λwv=>Zc wv kb 0 (M mb)/\Zc wv ob 1 (O n)) (with_reducible (first|exact a.j|exact d.j)) (first|(go_at_call 124;refine B.j.m ?_;rintro e w2 ⟨rfl,m⟩;have d:=Y (j.j _ _ _ m.j).1));obtain⟨q,r⟩:=m.j.two List.mem_cons_self;clear a d B x;by_cases G:k=5
 ·subst G;rw[if_pos rfl] at l;go_upto_region 5 with fail
  clear q r;have a:=Y (j.j _ _ _ m.j.drew).2.1;have d:=a;have p:=Y (m.j.drew.call (λV h=>h.make n size z.j o.j.1));go_region_held3 (λwv=>Zc wv kb 1 (M sb)/\Zc wv ob 1 (O n)) (with_reducible (first|exact a.j|exact d.j)) (first|(go_at_call 125;refine p.j.m ?_;rintro e w3 ⟨rfl,g⟩;have d:=Y (j.j _ _ _ g.j).2.1));go_wp2_with fail
  all_goals
   go_end0;exact⟨rfl,by rw[l.j];exact g.j.fin⟩
 rw[if_neg G] at l;have n5:(k==5)=false:=by simpa using G
 clear G;by_cases N:k=6
 ·subst N;rw[if_pos rfl] at l;go_upto_region 7 with fail
  clear q r;have a:=Y (j.j _ _ _ m.j.drew).2.1;have d:=a;have p:=Y (m.j.drew.call (λV h=>h.make n 4 z.j o.j.1));go_region_held3 (λwv=>Zc wv kb 1 (M sb)/\Zc wv ob 1 (O n)) (with_reducible (first|exact a.j|exact d.j)) (first|(go_at_call 125;refine p.j.m ?_;rintro e w3 ⟨rfl,g⟩;have d:=Y (j.j _ _ _ g.j).2.1));clear a d p;go_upto_region 8 with fail
  have a:=Y (j.j _ _ _ g.j.drew).2.2.2;obtain⟨wA,P⟩:=Ze ((w3.alloc (.cells (Ds n).toArray 109)).drew);obtain⟨gb,Q⟩:=Ze (w3.heap.size);have Am:Zq w3 wA:=by rw[P];exact((H.refl _ w3).alloc _).drew
  have fI:=Y (j.j _ _ _ (g.j.quiet Am)).2.2.2;have xz:wA.heap[gb]?=some (.cells (Ds n).toArray 109 (0,0)):=by rw[P,Q];exact heap_alloc_last w3 _
  obtain⟨s,cR,xy⟩:∃s,(Instr.mapUpdate 96 (.map (some tb)) (O n) (M gb)).run prog wA=.ok () s/\(au U s kb mb sb pb qb bb tb {c with bs:=kL c.bs n 4,T:=oG (qq n) c.T}/\Zn U w s):=by
   obtain⟨s,h1,h2,h3⟩:=au.aiq (K:={c with bs:=kL c.bs n 4}) g.j.fin.1 o.j.2.2.2.1 o.j.2.2.1 z.j (by first|exact o.j.2.2.2.2 rfl|exact o.j.2.2.2.2 trivial) xz (by rw[Q];exact Nat.le_refl _) Am;exact⟨s,h1,h2,g.j.fin.2.trans h3⟩
  have HF:=Y xy;clear Am xz xy;refine sx (S:=(λwv=>wv.cell? (E kb 5)=some (.map (some tb))/\wv.cell? (E ob 1)=some (O n))) 10 Zx Zg Zx ?_;simp only[jM,oC,List.setIfInBounds_toArray,List.set_cons_zero,List.set_cons_succ,List.size_toArray,List.length_cons,List.length_nil,Nat.zero_add,Nat.reduceAdd];refine Zt 0 a.j ?_;refine Zt 1 a.j ?_;refine Zt 2 a.j ?_;refine Zt 3 a.j ?_;refine Zt 4 a.j ?_;refine Zt 5 a.j ?_;refine Zt 6 a.j ?_;refine Zt 7 a.j ?_;refine wpAnyH_take (i:=8) (v:=?v8_8) Zg Zx Zx Zx (by exact λ_ _ _ h=>h) (Or.inl ⟨by rfl,?hy8_8⟩) a.j ?_
  case hy8_8=>(intro wq mS;refine(ap6 (.tmp 44) rfl rfl).trans ?_;with_reducible rfl)
  try simp only[Act.put,List.setIfInBounds_toArray,List.set_cons_zero,List.set_cons_succ]
  refine Zy 9 (λK hK=>?_);go_simp;rw[<-P,<-Q];clear P Q;refine Zb hK fI.j ?_;refine wpAnyH_take (i:=10) (v:=undef) Zg Zx Zx Zx (by exact λ_ _ _ h=>h) (Or.inr ⟨by rfl,rfl⟩) fI.j ?_;refine wpAnyH_done Zx ?_ _;simp only[p8];go_wp2_with fail
  all_goals
   go_end0;exact⟨rfl,by rw[l.j];exact HF.j⟩
 rw[if_neg N] at l;have n6:(k==6)=false:=by simpa using N
 clear N;by_cases R:k=7
 ·subst R;rw[if_pos (Or.inl rfl)] at l;go_upto_region 11 with fail
  clear q r;have a:=Y (j.j _ _ _ m.j.drew).2.2.1;have d:=a;have p:=Y (m.j.drew.call (λV h=>h.W9 n z.j (decide ((7:Int)=8)) o.j.2.1));go_region_held3 (λwv=>Zc wv kb 4 (M bb)/\Zc wv ob 1 (O n)/\Zc wv ob 0 (O 7)) (with_reducible (first|exact a.j|exact d.j)) (first|(go_at_call 126;refine p.j.m ?_;rintro e w3 ⟨rfl,g⟩;have d:=Y (j.j _ _ _ g.j).2.2.1));go_wp2_with fail
  all_goals
   go_end0;exact⟨rfl,by rw[l.j];exact g.j.fin⟩
 have n7:(k==7)=false:=by simpa using R
 by_cases W:k=8
 ·subst W;rw[if_pos (Or.inr rfl)] at l;go_upto_region 11 with fail
  clear q r;have a:=Y (j.j _ _ _ m.j.drew).2.2.1;have d:=a;have p:=Y (m.j.drew.call (λV h=>h.W9 n z.j (decide ((8:Int)=8)) o.j.2.1));go_region_held3 (λwv=>Zc wv kb 4 (M bb)/\Zc wv ob 1 (O n)/\Zc wv ob 0 (O 8)) (with_reducible (first|exact a.j|exact d.j)) (first|(go_at_call 126;refine p.j.m ?_;rintro e w3 ⟨rfl,g⟩;have d:=Y (j.j _ _ _ g.j).2.2.1));go_wp2_with fail
  all_goals
   go_end0;exact⟨rfl,by rw[l.j];exact g.j.fin⟩
 rw[if_neg (λh=>h.elim R W)] at l;have n8:(k==8)=false:=by simpa using W
 clear R W;go_wp2_with fail
 all_goals
  go_end0;exact⟨rfl,by rw[l.j];exact m.j.fin⟩
theorem bE.still(h:bE K):Still K.T:=λt ht=>⟨(h.tr t ht).2.2.2.2.1,(h.tr t ht).2.2.2.2.2.1⟩
theorem bE.aiW(h:bE K)(he:iZ K.n K.os K.rs (6,n)=0):n∉K.T.map (·.num):=by
 have b:lR (K.n:Int) K.os K.rs (6,n)=K.os++[(6,n)]:=if_pos ⟨he,show(6:Int)≠1 from I⟩;have a:=(h.p.add (6,n)).on;rw[b,List.map_append,List.nodup_append] at a;have c:n∉K.os.map (·.2):=λhn=>a.2.2 n hn n (by simp) rfl;exact λhn=>c (List.mem_map.2 ⟨_,(h.tn n).1 hn,rfl⟩)
theorem apM(h:au U w kb mb sb pb qb bb tb K)(hw:bE K)(k n size)(hk:af k)(hn:af n):
  Zk 40 #[M kb,.agg #[O k,O n,O size]] w λe w'=>Zr e (O (dH K (k,n,size)).2)/\au U w' kb mb sb pb qb bb tb (dH K (k,n,size)).1/\Zn U w w':=by
 have⟨w1,g⟩:=Ze (w.alloc (.cells #[O k,O n,O size] 73));have⟨ob,i⟩:=Ze (w.heap.size);have D:Hid (aj U w kb mb sb pb qb bb tb [(ob,.cells #[O k,O n,O size] 73 (0,0))] K w1):=by rw[g,i];exact(aj.start h).alloc _
 have⟨m,o,p⟩:=D.j.three List.mem_cons_self;have q:=Y (λw=>alp size w);by_cases j:k=5/\iO size=false
 ·rw[show dH K (k,n,size)=(K,1) from by unfold dH;rw[if_pos j]];obtain⟨rfl,ht⟩:=j;rw[ht] at q;go_enter func40,ntmps40;go_upto_region 1 with fail
  rw[<-g,<-i];clear g i;go_wp2_with fail;refine(q.j _).m ?_;rintro e w2 ⟨rfl,G⟩;have T:=G.symm;subst T;go_wp2_with fail
  all_goals
   go_ret;exact⟨rfl,D.j.fin⟩
 have N:=Y (λF wv(h:aj U w kb mb sb pb qb bb tb F K wv)=>h.call (λV h=>h.add k n hk hn))
 have W:Hid (∀F K' wv,aj U w kb mb sb pb qb bb tb ((ob,.cells #[O k,O n,O size] 73 (0,0))::F) K' wv->Zc wv kb 2 (M pb)/\Zc wv ob 0 (O k)/\Zc wv ob 1 (O n)/\Zc wv ob 2 (O size)):=λF K' wv h=>⟨h.c.2.2.1,h.three List.mem_cons_self⟩
 have d:=Y (aix (K:=K) (x:=(k,n,size)) j);have r:Hid (iZ K.n K.os K.rs (k,n)=0->k=6->n∉K.T.map (·.num)):=λh1 h2=>by subst h2;exact hw.aiW h1
 have s:Hid (K.bs.length<1000000/\K.b.ps.length<1000000/\K.T.length<1000/\Still K.T):=⟨by have:=hw.nb;omega,by have:=hw.np;omega,by have:=hw.nt;omega,hw.still⟩
 have P:Hid (iZ K.n K.os K.rs (k,n)≠0->dH K (k,n,size)=(K,iZ K.n K.os K.rs (k,n))):=λQ=>by unfold dH;rw[if_neg j,if_neg Q]
 have X:Hid (iZ K.n K.os K.rs (k,n)≠0->{K with os:=lR K.n K.os K.rs (k,n),rs:=oV K.n K.os K.rs (k,n)}=K):=λQ=>by
  have e1:lR (K.n:Int) K.os K.rs (k,n)=K.os:=if_neg (λe=>Q e.1);have e2:oV (K.n:Int) K.os K.rs (k,n)=K.rs:=if_neg (λe=>Q e.1);rw[e1,e2]
 have HN:=Y hn;obtain⟨b,AB⟩:=Ze ({K with os:=lR K.n K.os K.rs (k,n),rs:=oV K.n K.os K.rs (k,n)});have c:Hid (b.bs.length<1000000/\b.b.ps.length<1000000/\b.T.length<1000/\Still b.T/\b.T=K.T):=by rw[AB];exact⟨s.j.1,s.j.2.1,s.j.2.2.1,s.j.2.2.2,rfl⟩
 rw[<-AB] at N d X;obtain⟨t,Au⟩:=Ze (iZ K.n K.os K.rs (k,n));dsimp only at d;rw[<-Au] at N d r P X;obtain⟨KE,aJ⟩:=Ze (dH K (k,n,size));rw[<-aJ] at d P|-;have u:=Y (W.j _ _ _ D.j.drew);have f:=u;have R:=Y (N.j _ _ D.j.drew)
 have v:((k==5)&& !(iO size))=false:=by
  cases dk:iO size with
  |true=>simp
  |false=>
   have:¬k=5:=λe=>j ⟨e,dk⟩
   simp[this]
 have Uq:=Y j;clear h hw hn hk j s AB Au aJ N;have HZ:Hid (t≠0->b=K):=X.j;by_cases S:k=5
 ·have ht:iO size=true:=by
   cases dk:iO size with
   |true=>rfl
   |false=>exact absurd ⟨S,dk⟩ Uq.j
  rw[ht] at q;subst S;clear v Uq ht;go_enter func40,ntmps40;go_upto_region 1 with fail
  rw[<-g,<-i];clear g i;go_wp2_with fail;refine(q.j _).m ?_;rintro e w2 ⟨rfl,G⟩;have T:=G.symm;clear G;subst T;go_upto_region 3 with fail
  clear m o p;go_region_held3 (λwv=>Zc wv kb 2 (M pb)/\Zc wv ob 0 (O 5)/\Zc wv ob 1 (O n)/\Zc wv ob 2 (O size)) (with_reducible (first|exact u.j|exact f.j)) (first|(go_at_call 84;refine R.j.m ?_;rintro e w2 ⟨rfl,l⟩;have f:=Y (W.j _ _ _ l.j)));obtain⟨c2,m,o,p⟩:=f.j;clear u R;by_cases a:t=0
  ·subst a;have y:=Y (l.j.call (λV h=>aba h c.j.1 c.j.2.1 c.j.2.2.1 c.j.2.2.2.1 5 n size HN.j (λA=>by rw[c.j.2.2.2.2];first|exact r.j rfl A|exact r.j trivial A)));go_wp2_with fail;refine y.j.m ?_;rintro e w3 ⟨rfl,H4⟩;clear y c2 m o p f;go_wp2_with fail
   all_goals
    go_ret;have B:=(by first|exact d.j rfl|exact d.j trivial:KE=(if (5:Int)=1 then b else xM b (5,n) size,0))
    exact⟨congrArg (λz:Kn×Int=>Ending.returned (Value.int .i64 z.2)) B.symm,by rw[B];exact H4.j.fin⟩
  have e1:(t !=0)=true:=by simpa using a
  have C:=Y (P.j a);have Lq:=Y (HZ.j a);clear a;go_wp2_with fail
  all_goals
   go_ret;exact⟨Zz C.j,by rw[C.j];have:=l.j.fin;rw[Lq.j] at this;exact this⟩
 have n5:(k==5)=false:=by simpa using S
 clear v Uq S q;go_enter func40,ntmps40;go_upto_region 1 with fail
 rw[<-g,<-i];clear g i;go_upto_region 3 with fail
 clear m o p;go_region_held3 (λwv=>Zc wv kb 2 (M pb)/\Zc wv ob 0 (O k)/\Zc wv ob 1 (O n)/\Zc wv ob 2 (O size)) (with_reducible (first|exact u.j|exact f.j)) (first|(go_at_call 84;refine R.j.m ?_;rintro e w2 ⟨rfl,l⟩;have f:=Y (W.j _ _ _ l.j)));obtain⟨c2,m,o,p⟩:=f.j;clear u R;by_cases a:t=0
 ·subst a;have y:=Y (l.j.call (λV h=>aba h c.j.1 c.j.2.1 c.j.2.2.1 c.j.2.2.2.1 k n size HN.j (λA=>by rw[c.j.2.2.2.2];first|exact r.j rfl A|exact r.j trivial A)));go_wp2_with fail;refine y.j.m ?_;rintro e w3 ⟨rfl,H4⟩;clear y c2 m o p f;go_wp2_with fail
  all_goals
   go_ret;have B:=(by first|exact d.j rfl|exact d.j trivial:KE=(if k=1 then b else xM b (k,n) size,0))
   exact⟨congrArg (λz:Kn×Int=>Ending.returned (Value.int .i64 z.2)) B.symm,by rw[B];exact H4.j.fin⟩
 have e1:(t !=0)=true:=by simpa using a
 have C:=Y (P.j a);have Lq:=Y (HZ.j a);clear a;go_wp2_with fail
 all_goals
  go_ret;exact⟨Zz C.j,by rw[C.j];have:=l.j.fin;rw[Lq.j] at this;exact this⟩
theorem agk(hp:ie P os rs)(h:dJ os rs (4,n)=true):0<=n/\n<256:=by
 unfold dJ at h;rw[if_neg (show¬((4:Int)=9\/(4:Int)=10) from I)] at h;have h1:=of_decide_eq_true h;unfold zn at h1;rcases List.mem_append.1 h1 with h1|h1
 ·have:=hp.ok _ h1;have:=hp.p;simp only at*;omega
 have⟨r,hr,he⟩:=List.mem_map.1 h1;simp only[Prod.mk.injEq] at he;exact absurd he.1 I
theorem ane(hp:ie P os rs)(h:dJ os rs (2,n)=true):0<=n/\n<P:=by
 unfold dJ at h;rw[if_neg (show¬((2:Int)=9\/(2:Int)=10) from I)] at h;have h1:=of_decide_eq_true h;unfold zn at h1;rcases List.mem_append.1 h1 with h1|h1
 ·have:=hp.ok _ h1;have:=hp.p;simp only at*;omega
 have⟨r,hr,he⟩:=List.mem_map.1 h1;simp only[Prod.mk.injEq] at he;exact absurd he.1 I
theorem abi(hp:ie (K.n:Int) K.os K.rs)(b:0<=a)(h1:dJ K.os K.rs (2,a/4096)=true)(c:¬4096<a % 4096+(d.length:Int)):yq K.f K.n a d=(cQ K.f a.toNat d,0):=by
 have e:=ane hp h1;refine if_pos ?_;unfold rB;simp only[Bool.and_eq_true,decide_eq_true_eq];omega
theorem aoI(h:a<0):dB K (a,d)=(K,6):=by
 have e:Ev K (a,d)=6:=if_pos (Or.inl h);unfold dB;rw[if_neg (by rw[e];decide)]
theorem aoL(h:dJ K.os K.rs (2,a/4096)=false):dB K (a,d)=(K,6):=by
 have e:Ev K (a,d)=6:=if_pos (Or.inr (Or.inl h));unfold dB;rw[if_neg (by rw[e];decide)]
theorem aoK(h:4096<a % 4096+(d.length:Int)):dB K (a,d)=(K,6):=by
 have e:Ev K (a,d)=6:=if_pos (Or.inr (Or.inr h));unfold dB;rw[if_neg (by rw[e];decide)]
theorem aoJ(hp:ie (K.n:Int) K.os K.rs)(b:0<=a)(h1:dJ K.os K.rs (2,a/4096)=true)(c:¬4096<a % 4096+(d.length:Int)):dB K (a,d)=({K with f:=(yq K.f K.n a d).1},0)/\(yq K.f K.n a d).2=0:=by
 have e:Ev K (a,d)=0:=if_neg (by rw[h1];simp;omega);refine⟨?_,abi hp b h1 c▸rfl⟩;unfold dB;rw[if_pos e,abi hp b h1 c]
theorem Qh(h:0<=a):Int.tdiv a 4096=a/4096:=Int.tdiv_eq_ediv_of_nonneg h
theorem agA(h:0<=a):Int.tmod a 4096=a % 4096:=Int.tmod_eq_emod_of_nonneg h
theorem aj.drewN(h:aj U w kb mb sb pb qb bb tb F K wv)(m):aj U w kb mb sb pb qb bb tb F K (wv.drewN m):=h.quiet ((H.refl _ _).drewN m)
theorem apP(h:au U w kb mb sb pb qb bb tb K)(a d)(ha:af a)(N:d.length<=140737488355328):
  Zk 42 #[M kb,.agg #[O a,cj d]] w λe w'=>Zr e (O (dB K (a,d)).2)/\au U w' kb mb sb pb qb bb tb (dB K (a,d)).1/\Zn U w w':=by
 have⟨w1,c⟩:=Ze (w.alloc (.cells #[O a,cj d] 77));have⟨ob,g⟩:=Ze (w.heap.size);have o:Hid (aj U w kb mb sb pb qb bb tb [(ob,.cells #[O a,cj d] 77 (0,0))] K w1):=by rw[c,g];exact(aj.start h).alloc _
 have hp:=h.UW;have⟨pg,j⟩:=Ze (Int.tdiv a 4096);have⟨of,p⟩:=Ze (Int.tmod a 4096)
 have k:af pg/\(0<=a->pg=a/4096)/\(0<=a->of=a % 4096):=by
  unfold af at*;refine⟨?_,λh=>j.trans (Qh h),λh=>p.trans (agA h)⟩;have:=Int.natAbs_tdiv a 4096;have h2:a.natAbs/Int.natAbs 4096<=a.natAbs:=Nat.div_le_self _ _;rw[j];by_cases P:0<=a
  ·rw[Qh P];omega
  have e:Int.tdiv a 4096= - Int.tdiv (-a) 4096:=by rw[Int.neg_tdiv];omega
  rw[e,Qh (show 0<= -a from Z)];omega
 have Q:IntKind.i64.wrap pg=pg:=by rw[IntKind.wrap_i64];have:=k.1;unfold af at this;omega
 have t:=Y k;have u:=Y (λwv(h:aj U w kb mb sb pb qb bb tb [(ob,.cells #[O a,cj d] 77 (0,0))] K wv)=>h.read (λV h=>MK h 2 pg k.1))
 have l:Hid (∀F v wv,aj U w kb mb sb pb qb bb tb ((ob,.cells #[O a,cj d] 77 (0,0))::F) v wv->Zc wv kb 0 (M mb)/\Zc wv ob 0 (O a)/\Zc wv ob 1 (.string ⟨d.toArray⟩)):=λF v wv h=>⟨h.c.1,h.two List.mem_cons_self⟩
 have x:=(l.j _ _ _ o.j).2.1;obtain⟨KE,q⟩:=Ze (dB K (a,d));rw[<-q];have m:=Y q;have R:=Y hp;have S:=j.symm;have T:=p.symm;clear h ha k j p q hp;by_cases a0:a<0
 ·have b:=Y (m.j.trans (aoI a0));go_enter func42,ntmps42;go_upto_region 1 with fail
  rw[<-c,<-g];clear c g;go_wp2_with fail;go_quiet (fail);go_wp2_with fail
  all_goals
   go_ret;exact⟨Zz b.j,by rw[b.j];exact(o.j.drewN _).fin⟩
 have y:pg=a/4096:=t.j.2.1 Z;have z:of=a % 4096:=t.j.2.2 Z;have n:=Y (⟨y,z⟩:_/\_);have r:0<=of/\of<4096:=Z;have W:=Zh (4096 - of) Z;have X:Hid (0<=a):=by show 0<=a;omega
 clear y z r N;obtain⟨B,s⟩:=Ze (dJ K.os K.rs (2,pg));rw[<-s] at u;have A:=Y s;clear s;go_enter func42,ntmps42;go_upto_region 1 with fail
 rw[<-c,<-g];clear c g;go_wp2_with fail;go_quiet (fail);go_wp2_with fail;refine(u.j _ (o.j.drewN _)).m ?_;rintro e w2 ⟨rfl,i⟩;obtain⟨_,x,q1⟩:=l.j _ _ _ i.j
 cases B with
 |false=>
  have b:=Y (m.j.trans (aoL (by rw[<-n.j.1];exact A.j.symm)));go_wp2_with fail
  all_goals
   go_ret
   exact⟨Zz b.j,by rw[b.j];exact i.j.fin⟩
 |true=>
  by_cases l1:4096 - of<(d.length:Int)
  ·have b:=Y (m.j.trans (aoK (d:=d) (by rw[<-n.j.2];omega)));go_wp2_with fail
   all_goals
    go_ret;exact⟨Zz b.j,by rw[b.j];exact i.j.fin⟩
  have hg:=aoJ R.j (d:=d) X.j (by rw[<-n.j.1];exact A.j.symm) (by rw[<-n.j.2];omega);have b:=Y (m.j.trans hg.1)
  have eU:Hid (Zk 87 #[M mb,O a,.string ⟨d.toArray⟩] w2.drew λe w'=>Zr e (O 0)/\Hid (aj U w kb mb sb pb qb bb tb [(ob,.cells #[O a,cj d] 77 (0,0))] {K with f:=(yq K.f K.n a d).1} w')):=by
   have:=i.j.drew.call (λV h=>h.write a d);rw[hg.2] at this;exact this
  clear hg;have C:=Y (l.j _ _ _ i.j.drew);have D:=C;go_upto_region 4 with fail
  clear x q1;go_region_held3 (λwv=>Zc wv kb 0 (M mb)/\Zc wv ob 0 (O a)/\Zc wv ob 1 (.string ⟨d.toArray⟩)) (with_reducible (first|exact C.j|exact D.j)) (first|(go_at_call 87;refine eU.j.m ?_;rintro e w3 ⟨rfl,G⟩;have D:=Y (l.j _ _ _ G.j)));go_wp2_with fail
  all_goals
   go_ret;exact⟨Zz b.j,by rw[b.j];exact G.j.fin⟩
def Xd(x:Int×Int×Int):List Value:=[O x.1,O x.2.1,O x.2.2]
def byC(x:Int×Z2):List Value:=[O x.1,cj x.2]
def XE(x:Mp):List Value:=[O x.at'.1,O x.at'.2,O x.root,J (x.va:Int),O x.rights]
def tZ(x:Tc):List Value:=[O x.num,O x.cy,O x.prio,.bool x.yA]++(ny .u32 x.rg++[J x.pc])
def Yj(x:Int×Int×Int):List Value:=[O x.1,O x.2.1,J x.2.2]
def sU:Lay (Int×Int×Int):=⟨Xd,3,λ_=>rfl,λt u hu=>by
 simp only[Xd,List.mem_cons,List.not_mem_nil,or_false] at hu
 rcases hu with rfl|rfl|rfl<;>rfl,I⟩
def oT:Lay (Int×Z2):=⟨byC,2,λ_=>rfl,λt u hu=>by
 simp only[byC,List.mem_cons,List.not_mem_nil,or_false] at hu
 rcases hu with rfl|rfl<;>rfl,I⟩
def sW:Lay Mp:=⟨XE,5,λ_=>rfl,λt u hu=>by
 simp only[XE,List.mem_cons,List.not_mem_nil,or_false] at hu
 rcases hu with rfl|rfl|rfl|rfl|rfl<;>rfl,I⟩
def sE:Lay Tc:=⟨tZ,37,λt=>by simp[tZ,mH],λt u hu=>by
 rcases List.mem_append.1 hu with hu|hu
 ·simp only[List.mem_cons,List.not_mem_nil,or_false] at hu;rcases hu with rfl|rfl|rfl|rfl<;>rfl
 rcases List.mem_append.1 hu with hu|hu
 ·exact Qa _ _ u hu
 rw[List.mem_singleton] at hu;rw[hu];rfl,I⟩
def ML:Lay (Int×Int×Int):=⟨Yj,3,λ_=>rfl,λt u hu=>by
 simp only[Yj,List.mem_cons,List.not_mem_nil,or_false] at hu
 rcases hu with rfl|rfl|rfl<;>rfl,I⟩
def jZ{α:Type}(L:Lay α)(w:Z0)(v:Z3)(xs:List α):Prop:=∃p c,v=.slice p xs.length c/\(xs.length<=c/\c<=maxLen)/\∀(k:Nat) (hk:k<xs.length),∃g o,p=some (E g o)/\g<w.heap.size/\∀j,j<L.sz->w.cell? (E g (o+k*L.sz+j))=(L.cf xs[k])[j]?
theorem jZ.keep{L:Lay α}(h:jZ L w v xs)(a:Zq w w2):jZ L w2 v xs:=by
 have⟨p,c,h1,b,d⟩:=h;refine⟨p,c,h1,b,λk hk=>?_⟩;have⟨g,o,e,f,i⟩:=d k hk;have:=a.size;exact⟨g,o,e,Z,λj l=>(a.cell (p:=E g _) f id).trans (i j l)⟩
structure zp{α:Type}(L:Lay α)(w:Z0)(g o:Nat)(xs:List α):Prop where
 gl:g<w.heap.size
 c:∀(k:Nat) (hk:k<xs.length) (j:Nat),j<L.sz->w.cell? (E g (o+k*L.sz+j))=(L.cf xs[k])[j]?
theorem zp.keep{L:Lay α}{g o:Nat}(h:zp L w g o xs)(a:H S w w2)(b:¬S g):zp L w2 g o xs:=⟨Nat.lt_of_lt_of_le h.gl a.size,λk hk j c=>(a.cell (p:=E g _) h.gl b).trans (h.c k hk j c)⟩
theorem jZ.rw{L:Lay α}(h:jZ L w v xs):∃p c,v=.slice p xs.length c/\(xs.length<=c/\c<=maxLen)/\(0<xs.length->∃g o,p=some (E g o)/\zp L w g o xs):=by
 have⟨p,c,h1,e,b⟩:=h;refine⟨p,c,h1,e,λf=>?_⟩;have⟨g,o,d,i,_⟩:=b 0 f;refine⟨g,o,d,i,λk hk=>?_⟩;have⟨g2,o2,a,_,j⟩:=b k hk;rw[d] at a;injection a with a
 injection a with a l
 subst a l;exact j
theorem jZ.tu{p:Option Addr}{n c:Nat}{xs:Lp}(h:jZ dG w (.slice p n c) xs):n=xs.length/\n<=c/\c<=maxLen/\tM w p xs:=by
 have⟨q,c2,h1,a,f⟩:=h.rw;injection h1 with i k l
 subst i k l;refine⟨rfl,a.1,a.2,?_⟩;by_cases b:xs=[]
 ·exact Or.inl b
 have⟨g,o,m,d⟩:=f (List.length_pos_iff.2 b);exact Or.inr ⟨g,o,m,λj e=>⟨(d.c j e 0 I).trans rfl,(d.c j e 1 I).trans rfl⟩⟩
structure TR(w:Z0)(vt vo vb vc vm vr vi:Z3)(S:Sk):Prop where
 ts:jZ dG w vt S.ts
 ob:jZ sU w vo S.ob
 eM:jZ oT w vb S.eM
 cp:jZ tG w vc S.cp
 mp:jZ sW w vm S.mp
 th:jZ sE w vr S.th
 iq:jZ ML w vi S.iq
theorem UQ{P:Program}{o:Oper}{a:Act}{K:Act->World->Prop}(d s:Operand)(b i:TypeId)(m:o.op=.call {callee:=.builtin .copy,args:=#[d,s],argTypes:=#[b,i]})(elem:TypeId)(hu:P.underlying b=some (.slice elem))(n:(P.info? elem).map (·.size)=some 1)(g off c k:Nat)(e:Addr)(f l:Nat)(p:a.eval d=.slice (some (E g off)) c k)(hs:a.eval s=.slice (some e) f l)(cur:Array Value)(t:TypeId)(hg:w.heap[g]?=some (.cells cur t (0,0)))(cs:List Value)(hn:cs.length=Nat.min f c)(q:∀j v,cs[j]?=some v->w.cell? (e.add j)=some v)(r:off+cs.length<=cur.size)(h1:∀v∈cs,v.oneCell'=true)(h:K (a.put o.dst (goInt cs.length)) (w.setRow g (cur.toList.take off++(cs++cur.toList.drop (off+cs.length))).toArray)):Oper.wp P o a w K Q:=by
 unfold Oper.wp;simp[execOp,m,resolve,invoke,builtin,p,hs,run_copy_row (P:=P) w b i o.type elem g off c k e f l cur t cs hu n hg hn q r h1,Result.andThen];exact h
theorem Iv(w g a0 a1 a2 a3 a4 a5):H (λk=>k=g) w ((((((w.setCell (E g 0) a0).setCell (E g 1) a1).setCell (E g 2) a2).setCell (E g 3) a3).setCell (E g 4) a4).setCell (E g 5) a5):=
 (((((H.setCell (S:=λk=>k=g) (H.refl _ w) (p:=E g 0) (Or.inl rfl) a0).setCell (p:=E g 1) (Or.inl rfl) a1).setCell (p:=E g 2) (Or.inl rfl) a2).setCell (p:=E g 3) (Or.inl rfl) a3).setCell (p:=E g 4) (Or.inl rfl) a4).setCell (p:=E g 5) (Or.inl rfl) a5
theorem U6:(prog.info? 27).map (·.size)=some 1:=Zx
theorem XJ{g:Nat}{b c d:Int}(N:w.cell? (E g 13)=some (J l))(A:w.cell? (E g 14)=some (J a))(B:w.cell? (E g 15)=some (J b))(o:w.cell? (E g 16)=some (J c))(C:w.cell? (E g 17)=some (J d))(hg:g<w.heap.size)(bd):Zk 236 #[M g,J bd] w λe w'=>Zr e (mL ⟨l,a,b,c,d,bd⟩)/\Zq w w':=by
 have P:g≠w.heap.size:=Z;have s:g≠w.heap.size+1:=Z;have⟨w2,q⟩:=Ze ((w.alloc (.cells #[J 0,J 0,J 0,J 0,J 0,J 0] 172)).alloc (.cells #[J l,J 0,J 0,J 0,J 0,J bd] 172));have t:Hid (Zq w w2):=by rw[q];exact((H.refl _ w).alloc _).alloc _
 have⟨mb,u⟩:=Ze (w.heap.size+1);have x:Hid (w2.heap[mb]?=some (.cells #[J l,J 0,J 0,J 0,J 0,J bd] 172 (0,0))):=by
  rw[q,u];have:=heap_alloc_last (w.alloc (.cells #[J 0,J 0,J 0,J 0,J 0,J 0] 172)) (.cells #[J l,J 0,J 0,J 0,J 0,J bd] 172);show _=_;simpa using this
 have⟨rb,y⟩:=Ze (w.heap.size);have D:Hid (w2.heap[rb]?=some (.cells #[J 0,J 0,J 0,J 0,J 0,J 0] 172 (0,0))):=by
  rw[q,y,RowKit.Below.heap_alloc _ _ _ (by simp)];exact heap_alloc_last w _
 have F:Hid (∀j v,[Value.int .u32 a,J b,J c,J d][j]?=some v->w2.cell? (((E g 14):Addr).add j)=some v):=λj v n=>by
  have e:=t.j.cell (p:=E g (14+j)) hg id;rw[addr_add,e];have:j=0\/j=1\/j=2\/j=3\/4<=j:=Z;rcases this with rfl|rfl|rfl|rfl|Q
  ·exact A.trans n
  ·exact B.trans n
  ·exact o.trans n
  ·exact C.trans n
  rw[List.getElem?_eq_none (by simpa using Q)] at n;cases n
 have G:Hid (rb≠mb):=by show rb≠mb;omega
 have R:=Y (λw'(h:H (λk=>k=mb\/k=rb) w2 w')=>t.j.beyond h (λk hk=>by rcases hk with rfl|rfl<;>omega));go_enter func236,ntmps236;go_upto_region 2 with fail
 rw[<-q,<-u,<-y];clear q u y N A B o C P s t;refine sx (S:=(λ_=>True)) 7 Zx Zg Zx ?_;simp only[jM,oC,List.setIfInBounds_toArray,List.set_cons_zero,List.set_cons_succ,List.size_toArray,List.length_cons,List.length_nil,Nat.zero_add,Nat.reduceAdd];refine Zt 0 trivial ?_;refine Zt 1 trivial ?_;refine Zt 2 trivial ?_;refine Zt 3 trivial ?_;refine Zt 4 trivial ?_;refine Zt 5 trivial ?_;refine Zt 6 trivial ?_;refine wpAnyH_take (i:=7) (v:=undef) Zg Zx Zx Zx (by exact λ_ _ _ h=>h) (Or.inr ⟨by rfl,rfl⟩) trivial ?_;refine wpAnyH_done Zx ?_ _;simp only[p8];refine UQ (.tmp 15) (.tmp 20) 39 39 rfl 27 underlying39 U6 mb 1 4 4 (E g 14) 20 20 rfl rfl _ _ x.j [J a,J b,J c,J d] rfl F.j (by simp) (by simp[Value.oneCell']) ?_;have⟨w3,r⟩:=Ze (w2.drew.setRow mb #[J l,J a,J b,J c,J d,J bd]);have z:H (λk=>k=mb) w2 w3:=by rw[r];exact H.setRow (S:=λk=>k=mb) ((H.refl _ w2).drew) (Or.inl rfl) _
 have m:w3.heap[mb]?=some (.cells #[J l,J a,J b,J c,J d,J bd] 172 (0,0)):=by
  rw[r];exact setRow_heap w2.drew mb _ _ _ _ x.j
 have f:=H.keep z D.j G.j;have W:w3.cell? (E mb 0)=some (J l):=Zl m;have X:w3.cell? (E mb 1)=some (J a):=Zl m;have x2:w3.cell? (E mb 2)=some (J b):=Zl m;have x3:w3.cell? (E mb 3)=some (J c):=Zl m;have x4:w3.cell? (E mb 4)=some (J d):=Zl m;have x5:w3.cell? (E mb 5)=some (J bd):=Zl m;have z0:w3.cell? (E rb 0)=some (J 0):=Zl f;have U:w3.cell? (E rb 1)=some (J 0):=Zl f;have z2:w3.cell? (E rb 2)=some (J 0):=Zl f;have z3:w3.cell? (E rb 3)=some (J 0):=Zl f;have z4:w3.cell? (E rb 4)=some (J 0):=Zl f;have z5:w3.cell? (E rb 5)=some (J 0):=Zl f;have zf:∀j,w3.frozen? (E rb j)=false:=λj=>by simp[World.frozen?,f]
 have zl:=aB f;have V:=Y (z.mono (T:=λk=>k=mb\/k=rb) (λk _ h=>Or.inl h));have K:(List.take 1 [Value.int .u32 l,J 0,J 0,J 0,J 0,J bd]++([Value.int .u32 a,J b,J c,J d]++List.drop (1+4) [Value.int .u32 l,J 0,J 0,J 0,J 0,J bd])).toArray=#[J l,J a,J b,J c,J d,J bd]:=rfl;show Exit.then _ _ _ _ (w2.drew.setRow mb (List.take 1 [Value.int .u32 l,J 0,J 0,J 0,J 0,J bd]++([Value.int .u32 a,J b,J c,J d]++List.drop (1+4) [Value.int .u32 l,J 0,J 0,J 0,J 0,J bd])).toArray);rw[K,<-r];clear r K z m f x D F G hg;go_wp2_with fail;refine bodyPost_ret (v:=mL ⟨l,a,b,c,d,bd⟩) ?_ rfl ⟨rfl,?_⟩
 ·simp[results,results236,go_sem,mL,z0,U,z2,z3,z4,z5]
 exact R.j _ (V.j.trans ((Iv _ _ _ _ _ _ _ _).mono (λk _ h=>Or.inr h)))
end Go.Proofs.YtdjlkahbpdoemaaGreatDoor
namespace Go.Vx
def eJ{α:Type}(f:Nat->α)(c:Nat)(v:α):Nat->α:=λx=>if x=c then v else f x
theorem iF(f c)(v:α):eJ f c v c=v:=if_pos rfl
theorem dY(f){c x:Nat}(v:α)(h:x≠c):eJ f c v x=f x:=if_neg h
def oz:Nat->(Nat->Nat)->Nat
 |0,_=>0
 |k+1,f=>oz k f+f k
theorem L8(f g:Nat->Nat):∀k,(∀c,c<k->f c=g c)->oz k f=oz k g
 |0,_=>rfl
 |k+1,h=>by
  show oz k f+f k=oz k g+g k;rw[L8 f g k (λc a=>h c Z),h k Z]
theorem PR(f g:Nat->Nat)(c:Nat):∀k,c<k->(∀x,x≠c->g x=f x)->oz k g+f c=oz k f+g c
 |0,h,_=>Z
 |k+1,h,hg=>by
  show oz k g+g k+f c=oz k f+f k+g c;by_cases e:c=k
  ·subst e;rw[L8 g f c (λx a=>hg x Z)];omega
  have:=PR f g c k Z hg;rw[hg k (λh=>e h.symm)];omega
theorem PS(f:Nat->Nat)(b:Nat):∀k,(∀c,c<k->f c<=b)->oz k f<=k*b
 |0,_=>by simp[oz]
 |k+1,h=>by
  have h1:=PS f b k (λc a=>h c Z);have d:=h k Z;show oz k f+f k<=_;rw[Nat.succ_mul];omega
def kI(a b c:Int):Lp:=[(0,a),(1,b),(2,c)]
def Fb(a b c:Int)(t:Nat):Int:=if t=0 then a else if t=1 then b else c
def Cu(a b c:Int)(t:Nat)(lf:Int)(d:Nat):Nat:=
 (if t=d/\0<lf then 0 else if d=(t+1) % 3 then lf else if d=(t+2) % 3 then lf+Fb a b c ((t+1) % 3) else Fb a b c ((t+1) % 3)+Fb a b c ((t+2) % 3)).toNat
structure CE(a b c:Int)(t:Nat)(lf:Int):Prop where
 a:1<=a/\a<=9
 b:1<=b/\b<=9
 c:1<=c/\c<=9
 t:t<3
 l:0<=lf/\lf<=9
theorem anY{b c:Int}(h:CE a b c t lf)(d):Cu a b c t lf d<=18:=by
 have⟨ha,hb,e,ht,f⟩:=h;unfold Cu Fb;split
 ·decide
 split
 ·omega
 split<;>(split<;>(try split)<;>(try split)<;>omega)
theorem CE.next{b c:Int}(h:CE a b c t lf):CE a b c (kH (kI a b c) t lf) (ov (kI a b c) t lf):=by
 have⟨ha,hb,d,ht,e⟩:=h;refine⟨ha,hb,d,?_,?_⟩
 ·unfold kH kI;split
  ·exact Nat.mod_lt _ (show 0<3 from I)
  exact ht
 have:t=0\/t=1\/t=2:=Z;unfold ov kI;rcases this with rfl|rfl|rfl<;>(split<;>simp<;>omega)
theorem adF{b c:Int}(h:CE a b c t lf):tY (kI a b c) t lf=((kH (kI a b c) t lf:Nat):Int):=by
 have h1:=h.next.t;unfold tY;generalize kH (kI a b c) t lf=k at h1;have:k=0\/k=1\/k=2:=Z;rcases this with rfl|rfl|rfl<;>rfl
theorem anX{b c:Int}(h:CE a b c t lf){d:Nat}(e:d<3)(hn:kH (kI a b c) t lf≠d):Cu a b c (kH (kI a b c) t lf) (ov (kI a b c) t lf) d+1=Cu a b c t lf d:=by
 have⟨ha,hb,g,ht,i⟩:=h;have ht:t=0\/t=1\/t=2:=Z;have e:d=0\/d=1\/d=2:=Z;by_cases f:lf=0
 ·subst f;rcases ht with rfl|rfl|rfl<;>rcases e with rfl|rfl|rfl<;>simp[kH,ov,kI,Cu,Fb] at hn|-<;>omega
 rcases ht with rfl|rfl|rfl<;>rcases e with rfl|rfl|rfl<;>simp[kH,ov,kI,Cu,Fb,f] at hn|-<;>omega
end Go.Vx
namespace Go.Proofs.YtdjlkahbpdoemaaGreatDoor
def aD(i:Nat):Int:=5+5*(i:Int)
theorem IB{j:Nat}(h:aD i=aD j):i=j:=by unfold aD at h;omega
structure hY(k:Nat)(dm st:Nat->Int)(ss:List Et):Prop where
 has:∀i,i<=k->∃e∈ss,e.num=aD i/\e.cy=dm i/\(e.came≠0↔st i=1)
 all:∀e∈ss,∃i,i<=k/\e.num=aD i
theorem one_num(hw:cU ss ck){a:Nat}(ha:a<ss.length)(hb:b<ss.length)(h:ss[a].num=ss[b].num):a=b:=
 Classical.byContradiction λhn=>wU hw.nd ha hb hn h
section
variable {k:Nat}{st:Nat->Int}
theorem hY.put(h:hY k dm st ss)(hw:cU ss ck){j:Nat}(f:j<ss.length)(hn:ss[j].num=aD i)(hy:y.num=ss[j].num)(g:y.cy=ss[j].cy){s:Int}(hs:y.came≠0↔s=1):hY k dm (eJ st i s) (ss.set j y):=by
 refine⟨λi2 l=>?_,λe he=>?_⟩
 ·have⟨e,he,h1,a,b⟩:=h.has i2 l;obtain⟨m,hm,rfl⟩:=List.getElem_of_mem he;by_cases c:i2=i
  ·subst c;have d:=one_num hw hm f (h1.trans hn.symm);subst d;exact⟨y,List.mem_set hm _,hy.trans hn,g.trans a,by rw[iF];exact hs⟩
  have d:j≠m:=λn=>by
   subst n;exact c (IB (h1.symm.trans hn))
  refine⟨ss[m],List.mem_iff_getElem.2 ⟨m,by rw[List.length_set];exact hm,List.getElem_set_ne d _⟩,h1,a,by rw[dY _ _ c];exact b⟩
 rcases List.mem_or_eq_of_mem_set he with h1|h1
 ·exact h.all e h1
 subst h1;have⟨i2,a,b⟩:=h.all _ (List.getElem_mem f);exact⟨i2,a,hy.trans b⟩
theorem hY.find(h:hY k dm st ss)(hw:cU ss ck)(hi:i<=k):∃j,du ss (aD i)=some j/\∃a:j<ss.length,ss[j].num=aD i/\ss.getD j .df=ss[j]/\ss[j].cy=dm i/\(ss[j].came≠0↔st i=1):=by
 have⟨e,he,h1,b,c⟩:=h.has i hi;cases hf:du ss (aD i) with
 |none=>exact absurd (jQ (show dL _ _ 0=none from hf) e he) (by simp[h1])
 |some j=>
  have⟨a,hn⟩:=uK hf;obtain⟨m,hm,rfl⟩:=List.getElem_of_mem he;have d:=one_num hw hm a (h1.trans hn.symm);subst d;exact⟨m,rfl,hm,hn,gJ hm,b,c⟩
theorem hY.ready(h:hY k dm st ss)(hw:cU ss ck)(hi:i<=k)(hs:st i≠1):jw ss (aD i)=0/\hY k dm (eJ st i 1) (nJ ss ck (aD i)):=by
 have⟨j,hf,a,hn,hg,c,b⟩:=h.find hw hi;unfold jw nJ;rw[hf];dsimp only;rw[hg,Classical.byContradiction λh1=>hs (b.1 h1)];exact⟨rfl,h.put hw a hn (y:=dK ck ss[j]) rfl rfl ⟨λ_=>rfl,λ_=>by show(ck:Int)+1≠0;omega⟩⟩
theorem hY.block(h:hY k dm st ss)(hw:cU ss ck)(hi:i<=k)(hs:st i=1){s:Int}(h1:s≠1):su ss (aD i)=0/\hY k dm (eJ st i s) (zk ss (aD i)):=by
 have⟨j,hf,a,hn,hg,c,b⟩:=h.find hw hi;unfold su zk;rw[hf];dsimp only;rw[hg,if_neg (b.2 hs)];exact⟨rfl,h.put hw a hn (y:={ss[j] with left:=0,came:=0}) rfl rfl ⟨λh=>absurd rfl h,λh=>absurd h h1⟩⟩
theorem hY.same(h:hY k dm st ss)(hw:cU ss ck){j:Nat}(a:j<ss.length)(hy:y.num=ss[j].num)(b:y.cy=ss[j].cy)(c:y.came≠0↔ss[j].came≠0):hY k dm st (ss.set j y):=by
 have⟨i,hi,hn⟩:=h.all _ (List.getElem_mem a);have⟨m,_,d,f,_,_,g⟩:=h.find hw hi;have l:=one_num hw a d (hn.trans f.symm);subst l;have:=h.put hw a hn hy b (s:=st i) (c.trans g);have e:eJ st i (st i)=st:=funext λx=>by unfold eJ;split<;>simp_all
 rwa[e] at this
theorem hY.LP(h:hY k dm st ss)(hw:cU ss ck){d:Int}{j:Nat}(a:j<ss.length)(b:xV d ss[j]):∃i,i<=k/\ss[j].num=aD i/\st i=1/\dm i=d:=by
 have⟨i,hi,hn⟩:=h.all _ (List.getElem_mem a);have⟨m,_,c,e,_,f,g⟩:=h.find hw hi;have l:=one_num hw a c (hn.trans e.symm);subst l;exact⟨i,hi,hn,g.1 b.2,f.symm.trans b.1⟩
theorem hY.next(h:hY k dm st ss)(hw:cU ss ck)(d):hY k dm st (mf ss ck d).1/\(((mf ss ck d).2.2= -1/\∀i,i<=k->dm i=d->st i≠1)\/∃i,i<=k/\(mf ss ck d).2.2=aD i/\st i=1/\dm i=d):=by
 unfold mf;cases hb:pT ss d with
 |none=>
  refine⟨h,Or.inl ⟨rfl,λi hi n hs=>?_⟩⟩;have⟨j,_,c,_,_,e,a⟩:=h.find hw hi;exact TD hb _ (List.getElem_mem c) ⟨e.trans n,a.2 hs⟩
 |some i=>
  have⟨hi,h1,e⟩:=zm hb;dsimp only;rw[gJ hi];by_cases f:ss[i].left=0
  ·rw[if_pos f];have⟨_,j,g,c,o⟩:=TE hw hb;have l:=hw.ok _ (List.getElem_mem hi);have hp:=hw.put hi ss[i].prio ⟨l.2.2.2.1,l.2.2.2.2.1⟩;have m:=h.same hw hi (y:=dK ck ss[i]) rfl rfl ⟨λ_=>h1.2,λ_=>by show(ck:Int)+1≠0;omega⟩;rw[g];dsimp only;have⟨b,a,p⟩:=zm g;rw[gJ b];exact⟨m.same hp b (y:=uo _) rfl rfl Iff.rfl,Or.inr (m.LP hp b a)⟩
  rw[if_neg f];exact⟨h.same hw hi (y:=uo _) rfl rfl Iff.rfl,Or.inr (h.LP hw hi h1)⟩
end
end Go.Proofs.YtdjlkahbpdoemaaGreatDoor

import Derived.Test.YtphkconoooeidaaGreatDoorCp21
import Derived.Test.YtphkconoooeidaaGreatDoorCp22
set_option maxRecDepth 100000
set_option maxHeartbeats 8000000
set_option linter.unusedVariables false
set_option linter.unusedSimpArgs false
open Go Go.Vx Go.Proofs.Tryz Go.ChangeShapes Go.WideShapes Go.ChangeAt Go.RowKit
namespace Go.Proofs.YtphkconoooeidaaGreatDoor
section
variable {kb mb sb pb qb bb tb:Nat} {U V S:Nat->Prop} {w wv w2:World} {K K2:Kn} {F:List (Nat×Obj)}
structure aq (U:Nat->Prop) (w:World) (kb mb sb pb qb bb tb:Nat) (F:List (Nat×Obj)) (K:Kn) (wv:World):Prop where
 k:∃V:Nat->Prop,(∀k,U k->V k)/\(∀p∈F,V p.1)/\ax V wv kb mb sb pb qb bb tb K
 f:∀p∈F,wv.heap[p.1]?=some p.2
 o:Zn U w wv
theorem aq.start (h:ax U w kb mb sb pb qb bb tb K):aq U w kb mb sb pb qb bb tb [] K w:=⟨⟨U,λ_ h=>h,λp hp=>(by cases hp),h⟩,λp hp=>(by cases hp),ae.refl _ _⟩
theorem aq.quiet (h:aq U w kb mb sb pb qb bb tb F K wv) (ho:Zq wv w2):aq U w kb mb sb pb qb bb tb F K w2:=by
 obtain⟨⟨V,h1,h2,h3⟩,h4,h5⟩:=h;exact⟨⟨V,h1,h2,h3.quiet ho⟩,λp hp=>ae.keep ho (h4 p hp) (λh=>h),h5.trans (ho.f)⟩
theorem aq.drew (h:aq U w kb mb sb pb qb bb tb F K wv):aq U w kb mb sb pb qb bb tb F K wv.drew:=h.quiet ((ae.refl _ _).drew)
theorem aq.alloc (h:aq U w kb mb sb pb qb bb tb F K wv) (o:Obj):aq U w kb mb sb pb qb bb tb ((wv.heap.size,o)::F) K (wv.alloc o):=by
 obtain⟨⟨V,h1,h2,h3⟩,h4,h5⟩:=h;have ho:Zq wv (wv.alloc o):=(ae.refl _ wv).alloc o;refine⟨⟨_,λk hk=>Or.inl (h1 k hk),λp hp=>?_,h3.wide ho⟩,λp hp=>?_,h5.trans (ho.f)⟩
 ·rcases List.mem_cons.1 hp with rfl|hp
  ·exact Or.inr ⟨Nat.le_refl _,by simp⟩
  ·exact Or.inl (h2 p hp)
 ·rcases List.mem_cons.1 hp with rfl|hp
  ·exact heap_alloc_last wv o
  ·exact ae.keep ho (h4 p hp) (λh=>h)
theorem aq.more (h:aq U w kb mb sb pb qb bb tb F K wv) (ho:Zq wv w2) {b:Nat} {o:Obj} (hb:w2.heap[b]?=some o) (hl:wv.heap.size<=b):aq U w kb mb sb pb qb bb tb ((b,o)::F) K w2:=by
 obtain⟨⟨V,h1,h2,h3⟩,h4,h5⟩:=h;refine⟨⟨_,λk hk=>Or.inl (h1 k hk),λp hp=>?_,h3.wide ho⟩,λp hp=>?_,h5.trans (ho.f)⟩
 ·rcases List.mem_cons.1 hp with rfl|hp
  ·exact Or.inr ⟨hl,au hb⟩
  ·exact Or.inl (h2 p hp)
 ·rcases List.mem_cons.1 hp with rfl|hp
  ·exact hb
  ·exact ae.keep ho (h4 p hp) (λh=>h)
theorem aq.at (h:aq U w kb mb sb pb qb bb tb F K wv) {b:Nat} {o:Obj} (hm:(b,o)∈F):wv.heap[b]?=some o:=h.f _ hm
theorem aq.call (h:aq U w kb mb sb pb qb bb tb F K wv) {f:FuncId} {args:Array Value} {v:Value} (hc:∀V,ax V wv kb mb sb pb qb bb tb K->Zk f args wv λe w'=>Zr e v/\ax V w' kb mb sb pb qb bb tb K2/\Zn V wv w'):
  Zk f args wv λe w'=>Zr e v/\Hid (aq U w kb mb sb pb qb bb tb F K2 w'):=by
 obtain⟨⟨V,h1,h2,h3⟩,h4,h5⟩:=h;refine(hc V h3).m ?_;rintro e w' ⟨rfl,h6,h7⟩;exact⟨rfl,⟨V,h1,h2,h6⟩,λp hp=>ae.keep h7 (h4 p hp) (λh=>h (h2 p hp)),h5.trans (h7.mono (λk _ h8 h9=>h8 (h1 k h9)))⟩
theorem aq.read (h:aq U w kb mb sb pb qb bb tb F K wv) {f:FuncId} {args:Array Value} {v:Value} (hc:∀V,ax V wv kb mb sb pb qb bb tb K->Zk f args wv λe w'=>Zr e v/\Zq wv w'):
  Zk f args wv λe w'=>Zr e v/\Hid (aq U w kb mb sb pb qb bb tb F K w'):=by
 have h0:=h;obtain⟨⟨V,h1,h2,h3⟩,h4,h5⟩:=h;refine(hc V h3).m ?_;rintro e w' ⟨rfl,ho⟩;exact⟨rfl,h0.quiet ho⟩
theorem aq.fin (h:aq U w kb mb sb pb qb bb tb F K wv):ax U wv kb mb sb pb qb bb tb K/\Zn U w wv:=by
 obtain⟨⟨V,h1,h2,h3⟩,h4,h5⟩:=h;exact⟨h3.thin h1,h5⟩
theorem aq.c (h:aq U w kb mb sb pb qb bb tb F K wv):wv.cell? ⟨kb,0,none⟩=some (Zp mb)/\wv.cell? ⟨kb,1,none⟩=some (Zp sb)/\wv.cell? ⟨kb,2,none⟩=some (Zp pb)/\wv.cell? ⟨kb,3,none⟩=some (Zp qb)/\wv.cell? ⟨kb,4,none⟩=some (Zp bb)/\wv.cell? ⟨kb,5,none⟩=some (.map (some tb)):=by
 obtain⟨⟨V,h1,h2,h3⟩,h4,h5⟩:=h;exact⟨h3.c0,h3.c1,h3.c2,h3.c3,h3.c4,h3.c5⟩
theorem aq.two (h:aq U w kb mb sb pb qb bb tb F K wv) {b:Nat} {a0 a1:Value} {T:TypeId} (hm:(b,.cells #[a0,a1] T (0,0))∈F):wv.cell? ⟨b,0,none⟩=some a0/\wv.cell? ⟨b,1,none⟩=some a1:=⟨(cell_of_row _ _ 0 _ _ (0,0) (h.at hm)).trans rfl,(cell_of_row _ _ 1 _ _ (0,0) (h.at hm)).trans rfl⟩
theorem aq.three (h:aq U w kb mb sb pb qb bb tb F K wv) {b:Nat} {a0 a1 a2:Value} {T:TypeId} (hm:(b,.cells #[a0,a1,a2] T (0,0))∈F):wv.cell? ⟨b,0,none⟩=some a0/\wv.cell? ⟨b,1,none⟩=some a1/\wv.cell? ⟨b,2,none⟩=some a2:=⟨(cell_of_row _ _ 0 _ _ (0,0) (h.at hm)).trans rfl,(cell_of_row _ _ 1 _ _ (0,0) (h.at hm)).trans rfl,(cell_of_row _ _ 2 _ _ (0,0) (h.at hm)).trans rfl⟩
theorem aq.AZ (h:aq U w kb mb sb pb qb bb tb F K wv) {b:Nat} {cs:List Value} {T:TypeId} (hm:(b,.cells cs.toArray T (0,0))∈F) (j:Nat):wv.cell? ⟨b,j,none⟩=cs[j]?:=(cell_of_row _ _ j _ _ (0,0) (h.at hm)).trans (by simp)
theorem ax.zero (h:ax U w kb mb sb pb qb bb tb K) (p:Int):Zk 160 #[Zp mb,Zi p] w λe w'=>Zr e (Zi ((j5 K.f K.n p).2:Nat))/\ax U w' kb mb sb pb qb bb tb {K with f:=(j5 K.f K.n p).1}/\Zn U w w':=
 aD.call h 1 rfl (kz.bj mb K.n (j5 K.f K.n p).1) (λU2 a=>U9 a p)
theorem ax.write (h:ax U w kb mb sb pb qb bb tb K) (a:Int) (s:List UInt8):Zk 102 #[Zp mb,Zi a,.string ⟨s.toArray⟩] w λe w'=>Zr e (Zi ((oJ K.f K.n a s).2:Nat))/\ax U w' kb mb sb pb qb bb tb {K with f:=(oJ K.f K.n a s).1}/\Zn U w w':=
 aD.call h 1 rfl (kz.bj mb K.n (oJ K.f K.n a s).1) (λU2 b=>VX b a s)
theorem ax.table (h:ax U w kb mb sb pb qb bb tb K) (root:Int) (va:Nat) (hv:va<4294967296) (t:Int):Zk 202 #[Zp mb,Zi root,Zu (va:Int),Zi t] w λe w'=>Zr e (Zi ((iK K.f K.n root va t).2:Nat))/\ax U w' kb mb sb pb qb bb tb {K with f:=(iK K.f K.n root va t).1}/\Zn U w w':=
 aD.call h 1 rfl (kz.bj mb K.n (iK K.f K.n root va t).1) (λU2 b=>ZM b root va hv t)
theorem ax.map (h:ax U w kb mb sb pb qb bb tb K) (root:Int) (va:Nat) (hv:va<4294967296) (fr r:Int):Zk 203 #[Zp mb,Zi root,Zu (va:Int),Zi fr,Zi r] w λe w'=>Zr e (Zi ((fT K.f K.n root va fr r).2:Nat))/\ax U w' kb mb sb pb qb bb tb {K with f:=(fT K.f K.n root va fr r).1}/\Zn U w w':=
 aD.call h 1 rfl (kz.bj mb K.n (fT K.f K.n root va fr r).1) (λU2 b=>abM b root va hv fr r)
theorem ax.make (h:ax U w kb mb sb pb qb bb tb K) (num n:Int) (hn:aj num) (hl:K.bs.length<1000000):Zk 161 #[Zp sb,Zi num,Zi n] w λe w'=>Zr e (Zi (gX K.bs num n))/\ax U w' kb mb sb pb qb bb tb {K with bs:=fH K.bs num n}/\Zn U w w':=
 aD.call h 0 rfl (me.bj sb (fH K.bs num n) K.es) (λU2 a=>VE a num n hn hl)
theorem ax.put (h:ax U w kb mb sb pb qb bb tb K) (a:Sl) (c:Cp) (f:Sl) (ha:aj a.1) (gA:aj f.1) (nB:aj c.num) (hg:kE c) (hlen:K.es.length<1000000):Zk 106 #[Zp sb,.agg #[Zi a.1,Zi a.2],bO c,.agg #[Zi f.1,Zi f.2]] w λe w'=>Zr e (Zi (cK K.bs K.es a c f))/\ax U w' kb mb sb pb qb bb tb {K with es:=db K.bs K.es a c f}/\Zn U w w':=
 aD.call h 0 rfl (me.bj sb K.bs (db K.bs K.es a c f)) (λU2 x=>Vt x a c f ha gA nB hg hlen)
theorem ax.set (h:ax U w kb mb sb pb qb bb tb K) (s:Sl) (hb:aj s.1) (c:Cp) (hg:kE c):Zk 171 #[Zp sb,.agg #[Zi s.1,Zi s.2],bO c] w λe w'=>Zr e (Zi (kS K.bs K.es s c))/\ax U w' kb mb sb pb qb bb tb {K with es:=eY K.bs K.es s c}/\Zn U w w':=
 aD.call h 0 rfl (me.bj sb K.bs (eY K.bs K.es s c)) (λU2 x=>Vn x s hb c hg)
theorem ax.get (h:ax U w kb mb sb pb qb bb tb K) (s:Sl) (hb:aj s.1):Zk 104 #[Zp sb,.agg #[Zi s.1,Zi s.2]] w λe w'=>Zr e (.tuple #[bO (aH K.bs K.es s).1,Zi (aH K.bs K.es s).2])/\Zq w w':=by
 obtain⟨U2,a⟩:=h.o7;exact VK a s hb
theorem ax.ae7 (h:ax U w kb mb sb pb qb bb tb K) (o:Sl):Zk 201 #[Zp sb,.agg #[Zi o.1,Zi o.2]] w λe w'=>∃v,Zr e v/\ai aJ w' w.heap.size 95 v (gd K.es o)/\Zq w w':=by
 obtain⟨U2,a⟩:=h.o7;exact VJ a o
theorem ax.add (h:ax U w kb mb sb pb qb bb tb K) (k n:Int) (hk:aj k) (hn:aj n):Zk 99 #[Zp pb,.agg #[Zi k,Zi n]] w λe w'=>Zr e (Zi (aV K.n K.os K.rs (k,n)))/\ax U w' kb mb sb pb qb bb tb {K with os:=fX K.n K.os K.rs (k,n),rs:=ij K.n K.os K.rs (k,n)}/\Zn U w w':=
 aD.call h 2 rfl (nM.bj pb (K.n:Int) (fX K.n K.os K.rs (k,n)) (ij K.n K.os K.rs (k,n))) (λU2 a=>Vy a k n hk hn)
theorem ax.mark (h:ax U w kb mb sb pb qb bb tb K) (n:Int) (hn:aj n):Zk 144 #[Zp pb,Zi n] w λe w'=>Zr e (.tuple #[Zi (gL K.rs n).1,Zi (gL K.rs n).2])/\Zq w w':=by
 obtain⟨U2,a⟩:=h.vL;exact NH a n hn
theorem ax.at' (h:ax U w kb mb sb pb qb bb tb K) (q:Int) (hq:aj q):Zk 163 #[Zp pb,Zi q] w λe w'=>Zr e (.tuple #[.agg #[Zi (atR K.n K.os q).1.1,Zi (atR K.n K.os q).1.2],Zi (atR K.n K.os q).2])/\Zq w w':=by
 obtain⟨U2,a⟩:=h.vL;exact Vw a q hq
theorem ax.zO (h:ax U w kb mb sb pb qb bb tb K) (n:Int) (hn:aj n) (b:Bool) (hl:K.b.ps.length<1000000):Zk 162 #[Zp bb,Zi n,.bool b] w λe w'=>Zr e (Zi (nX K.b n))/\ax U w' kb mb sb pb qb bb tb {K with b:=jR K.b n b}/\Zn U w w':=
 aD.call h 4 rfl (qX.bj bb (jR K.b n b)) (λU2 a=>Vz a hl n hn b)
theorem ax.NN (h:ax U w kb mb sb pb qb bb tb K):fk (K.n:Int) K.os K.rs:=by
 obtain⟨U2,a⟩:=h.vL;exact a.wf
end
section
variable {kb mb sb pb qb bb tb:Nat} {U V S:Nat->Prop} {w wv w2:World} {K K2:Kn} {F:List (Nat×Obj)}
theorem aq.low (h:aq U w kb mb sb pb qb bb tb F K wv):∀k,U k->k<wv.heap.size:=by
 obtain⟨⟨V,h1,h2,h3⟩,_,_⟩:=h;exact λk hk=>aD.ul h3 k (h1 k hk)
theorem aq.tail {p:Nat×Obj} (h:aq U w kb mb sb pb qb bb tb (p::F) K wv):aq U w kb mb sb pb qb bb tb F K wv:=by
 obtain⟨⟨V,h1,h2,h3⟩,h4,h5⟩:=h;exact⟨⟨V,h1,λq hq=>h2 q (List.mem_cons_of_mem _ hq),h3⟩,λq hq=>h4 q (List.mem_cons_of_mem _ hq),h5⟩
theorem aq.fh {b:Nat} {o o2:Obj} (h:aq U w kb mb sb pb qb bb tb ((b,o)::F) K wv) (ho:ae (λk=>k=b) wv w2) (hb:w2.heap[b]?=some o2) (hU:¬U b) (hF:∀p∈F,p.1≠b):aq U w kb mb sb pb qb bb tb ((b,o2)::F) K w2:=by
 obtain⟨⟨V,h1,h2,h3⟩,h4,h5⟩:=h;refine⟨⟨V,h1,λq hq=>?_,ik.j (aD.bj _) h3 ho (λk _ hk=>by subst hk;exact h2 _ List.mem_cons_self)⟩,λq hq=>?_,h5.trans (ho.mono (λk _ hk=>by subst hk;exact hU))⟩
 ·rcases List.mem_cons.1 hq with rfl|hq
  ·exact h2 (b,o) List.mem_cons_self
  ·exact h2 q (List.mem_cons_of_mem _ hq)
 ·rcases List.mem_cons.1 hq with rfl|hq
  ·exact hb
  ·exact ae.keep ho (h4 q (List.mem_cons_of_mem _ hq)) (hF q hq)
theorem aq.Bq {ub:Nat} (h:aq U w kb mb sb pb qb bb tb ((ub,.cells qY.toArray 97 (0,0))::F) K wv) (u:Cp) (hU:¬U ub) (hF:∀p∈F,p.1≠ub):aq U w kb mb sb pb qb bb tb ((ub,.cells (de u).toArray 97 (0,0))::F) K (wv.setCells ub 0 (de u)):=by
 obtain⟨h1,h2⟩:=uD (de u) [] qY wv rfl (h.at List.mem_cons_self);exact h.fh h2 h1 hU hF
structure fy (w:World) (kb mb sb pb qb bb tb:Nat) (F:List (Nat×Obj)) (K:Kn) (wv:World):Prop where
 k:∃V:Nat->Prop,(∀p∈F,V p.1)/\ax V wv kb mb sb pb qb bb tb K
 f:∀p∈F,w.heap.size<=p.1/\wv.heap[p.1]?=some p.2
 o:Zq w wv
theorem fy.start (h:ax U w kb mb sb pb qb bb tb K):fy w kb mb sb pb qb bb tb [] K w:=⟨⟨U,λp hp=>(by cases hp),h⟩,λp hp=>(by cases hp),ae.refl _ _⟩
theorem fy.quiet (h:fy w kb mb sb pb qb bb tb F K wv) (ho:Zq wv w2):fy w kb mb sb pb qb bb tb F K w2:=by
 obtain⟨⟨V,h2,h3⟩,h4,h5⟩:=h;exact⟨⟨V,h2,h3.quiet ho⟩,λp hp=>⟨(h4 p hp).1,ae.keep ho (h4 p hp).2 (λh=>h)⟩,h5.trans ho⟩
theorem fy.drew (h:fy w kb mb sb pb qb bb tb F K wv):fy w kb mb sb pb qb bb tb F K wv.drew:=h.quiet ((ae.refl _ _).drew)
theorem fy.alloc (h:fy w kb mb sb pb qb bb tb F K wv) (o:Obj):fy w kb mb sb pb qb bb tb ((wv.heap.size,o)::F) K (wv.alloc o):=by
 obtain⟨⟨V,h2,h3⟩,h4,h5⟩:=h;have ho:Zq wv (wv.alloc o):=(ae.refl _ wv).alloc o;refine⟨⟨_,λp hp=>?_,h3.wide ho⟩,λp hp=>?_,h5.trans ho⟩
 ·rcases List.mem_cons.1 hp with rfl|hp
  ·exact Or.inr ⟨Nat.le_refl _,by simp⟩
  ·exact Or.inl (h2 p hp)
 ·rcases List.mem_cons.1 hp with rfl|hp
  ·exact⟨h5.size,heap_alloc_last wv o⟩
  ·exact⟨(h4 p hp).1,ae.keep ho (h4 p hp).2 (λh=>h)⟩
theorem fy.at (h:fy w kb mb sb pb qb bb tb F K wv) {b:Nat} {o:Obj} (hm:(b,o)∈F):wv.heap[b]?=some o:=(h.f _ hm).2
theorem fy.two (h:fy w kb mb sb pb qb bb tb F K wv) {b:Nat} {a0 a1:Value} {T:TypeId} (hm:(b,.cells #[a0,a1] T (0,0))∈F):wv.cell? ⟨b,0,none⟩=some a0/\wv.cell? ⟨b,1,none⟩=some a1:=⟨(cell_of_row _ _ 0 _ _ (0,0) (h.at hm)).trans rfl,(cell_of_row _ _ 1 _ _ (0,0) (h.at hm)).trans rfl⟩
theorem fy.read (h:fy w kb mb sb pb qb bb tb F K wv) {f:FuncId} {args:Array Value} {v:Value} (hc:∀V,ax V wv kb mb sb pb qb bb tb K->Zk f args wv λe w'=>Zr e v/\Zq wv w'):
  Zk f args wv λe w'=>Zr e v/\Hid (fy w kb mb sb pb qb bb tb F K w'):=by
 have h0:=h;obtain⟨⟨V,h2,h3⟩,h4,h5⟩:=h;refine(hc V h3).m ?_;rintro e w' ⟨rfl,ho⟩;exact⟨rfl,h0.quiet ho⟩
theorem fy.c (h:fy w kb mb sb pb qb bb tb F K wv):wv.cell? ⟨kb,0,none⟩=some (Zp mb)/\wv.cell? ⟨kb,1,none⟩=some (Zp sb)/\wv.cell? ⟨kb,2,none⟩=some (Zp pb)/\wv.cell? ⟨kb,3,none⟩=some (Zp qb)/\wv.cell? ⟨kb,4,none⟩=some (Zp bb)/\wv.cell? ⟨kb,5,none⟩=some (.map (some tb)):=by
 obtain⟨⟨V,h2,h3⟩,h4,h5⟩:=h;exact⟨h3.c0,h3.c1,h3.c2,h3.c3,h3.c4,h3.c5⟩
theorem fy.fh {b:Nat} {o o2:Obj} (h:fy w kb mb sb pb qb bb tb ((b,o)::F) K wv) (ho:ae (λk=>k=b) wv w2) (hb:w2.heap[b]?=some o2) (hF:∀p∈F,p.1≠b):fy w kb mb sb pb qb bb tb ((b,o2)::F) K w2:=by
 obtain⟨⟨V,h2,h3⟩,h4,h5⟩:=h;refine⟨⟨V,λq hq=>?_,ik.j (aD.bj _) h3 ho (λk _ hk=>by subst hk;exact h2 _ List.mem_cons_self)⟩,λq hq=>?_,h5.beyond ho (λk hk=>by subst hk;exact(h4 _ List.mem_cons_self).1)⟩
 ·rcases List.mem_cons.1 hq with rfl|hq
  ·exact h2 (b,o) List.mem_cons_self
  ·exact h2 q (List.mem_cons_of_mem _ hq)
 ·rcases List.mem_cons.1 hq with rfl|hq
  ·exact⟨(h4 (b,o) List.mem_cons_self).1,hb⟩
  ·exact⟨(h4 q (List.mem_cons_of_mem _ hq)).1,ae.keep ho (h4 q (List.mem_cons_of_mem _ hq)).2 (hF q hq)⟩
def uy:List Value:=[Zi 0,Zi 0]
theorem adI:(prog.info? 85).map (·.size)=some 2:=Zx
theorem fy.Om {ub:Nat} (h:fy w kb mb sb pb qb bb tb ((ub,.cells uy.toArray 85 (0,0))::F) K wv) (u:Sl) (hF:∀p∈F,p.1≠ub):fy w kb mb sb pb qb bb tb ((ub,.cells (iW u).toArray 85 (0,0))::F) K (wv.setCells ub 0 (iW u)):=by
 obtain⟨h1,h2⟩:=uD (iW u) [] uy wv rfl (h.at List.mem_cons_self);exact h.fh h2 h1 hF
theorem Ol {o:Oper} {act:Act} {K:Act->World->Prop} {Q:Exit->Act->World->Prop} (x y:Operand) (ho:o.op=.store 85 x y) (hd:o.dst=none) {u:Sl} {ub:Nat} (hx:act.eval x=Zp ub) (hy:act.eval y=.agg (iW u).toArray) (h0:w.heap[ub]?=some (.cells uy.toArray 85 (0,0))) (h:K act (w.setCells ub 0 (iW u))):Oper.wp prog o act w K Q:=by
 have ht:w.there ub 0 (iW u).toArray.size:=λj hj=>by
  refine⟨?_,jA h0 _⟩;rw[Nat.zero_add,cell_of_row _ _ j _ _ (0,0) h0,List.getElem?_toArray,List.getElem?_eq_getElem (show j<uy.length from hj)];rfl
 refine wp_store_mid 85 x y ho ub 0 _ hx hy ht (by rw[adI];rfl) (all_oneCell_toArray (λv hv=>aJ.one u v hv)) ?_;rw[hd];exact h
theorem Gz (h:ax U w kb mb sb pb qb bb tb K) (o1 o2:Int) (hi:aj o2):Zk 101 #[Zp kb,.agg #[Zi o1,Zi o2]] w λe w'=>Zr e (.bool (dk K.os K.rs (o1,o2)))/\Zq w w':=by
 obtain⟨w1,ag⟩:=Ze (w.alloc (.cells #[Zi o1,Zi o2] 85));obtain⟨ob,az⟩:=Ze (w.heap.size);have H2:Hid (fy w kb mb sb pb qb bb tb [(ob,.cells #[Zi o1,Zi o2] 85 (0,0))] K w1):=by rw[ag,az];exact(fy.start h).alloc _
 have hp:=h.NN;have CE:Hid (∀F wv,fy w kb mb sb pb qb bb tb F K wv->Zk 163 #[Zp pb,Zi o2] wv λe w'=>Zr e (.tuple #[.agg #[Zi (atR K.n K.os o2).1.1,Zi (atR K.n K.os o2).1.2],Zi (atR K.n K.os o2).2])/\Hid (fy w kb mb sb pb qb bb tb F K w')):=λF wv h=>h.read (λV h=>h.at' o2 hi)
 have l9:Hid (∀F wv,fy w kb mb sb pb qb bb tb F K wv->Zk 144 #[Zp pb,Zi o2] wv λe w'=>Zr e (.tuple #[Zi (gL K.rs o2).1,Zi (gL K.rs o2).2])/\Hid (fy w kb mb sb pb qb bb tb F K w')):=λF wv h=>h.read (λV h=>h.mark o2 hi)
 obtain⟨q0,q1⟩:=H2.j.two List.mem_cons_self;clear h hi;by_cases k0:o1=0
 ·subst k0;rw[afW hp];clear hp CE l9;go_enter func101,ntmps101;go_upto_region 1 with fail
  rw[<-ag,<-az];clear ag az;go_wp2_with fail
  all_goals
   go_ret;exact⟨rfl,H2.j.o⟩
 by_cases k1:o1=1
 ·subst k1;rw[afU hp];have af:Hid (Zc w1.drew kb 2 (Zp pb)/\Zc w1.drew ob 1 (Zi o2)):=⟨H2.j.drew.c.2.2.1,(H2.j.drew.two List.mem_cons_self).2⟩
  have ak:=af;have ar:Hid (∀F wv,fy w kb mb sb pb qb bb tb ((ob,.cells #[Zi 1,Zi o2] 85 (0,0))::F) K wv->Zc wv kb 2 (Zp pb)/\Zc wv ob 1 (Zi o2)):=λF wv h=>⟨h.c.2.2.1,(h.two List.mem_cons_self).2⟩
  have Cw:=aa (l9.j _ _ H2.j.drew);obtain⟨m2,bE⟩:=Ze ((gL K.rs o2).2);obtain⟨m1,ia⟩:=Ze ((gL K.rs o2).1);rw[<-bE,<-ia] at Cw;rw[<-bE];clear hp CE l9 ia bE;go_enter func101,ntmps101;go_upto_region 1 with fail
  rw[<-ag,<-az];clear ag az;go_upto_region 5 with fail
  clear q0 q1;go_region_held3 (λwv=>Zc wv kb 2 (Zp pb)/\Zc wv ob 1 (Zi o2)) (with_reducible (first|exact af.j|exact ak.j)) (first|(go_at_call 144;refine Cw.j.m ?_;rintro e w2 ⟨rfl,H3⟩;have ak:=aa (ar.j _ _ H3.j)));go_wp2_with fail
  all_goals
   go_ret;exact⟨rfl,H3.j.o⟩
 by_cases k9:o1=9
 ·subst k9;have e1:dk K.os K.rs (9,o2)=decide (0<=o2/\o2<8):=by unfold dk;rw[if_pos (Or.inl rfl)]
  rw[e1];have HI:=aa (λw=>Kb o2 w);obtain⟨B,hB⟩:=Ze (decide (0<=o2/\o2<8));rw[<-hB] at HI|-;clear hp CE l9 hB e1;go_enter func101,ntmps101;go_upto_region 1 with fail
  rw[<-ag,<-az];clear ag az;go_wp2_with fail;refine(HI.j _).e1 ?_;go_wp2_with fail
  all_goals
   go_ret;exact⟨rfl,H2.j.o⟩
 by_cases Gy:o1=10
 ·subst Gy;have e1:dk K.os K.rs (10,o2)=decide (0<=o2/\o2<8):=by unfold dk;rw[if_pos (Or.inr rfl)]
  rw[e1];have HI:=aa (λw=>Qm o2 w);obtain⟨B,hB⟩:=Ze (decide (0<=o2/\o2<8));rw[<-hB] at HI|-;clear hp CE l9 hB e1;go_enter func101,ntmps101;go_upto_region 1 with fail
  rw[<-ag,<-az];clear ag az;go_wp2_with fail;refine(HI.j _).e1 ?_;go_wp2_with fail
  all_goals
   go_ret;exact⟨rfl,H2.j.o⟩
 rw[afX hp k0 k1 k9 Gy];have n0:(o1==0)=false:=by simpa using k0
 have n1:(o1==1)=false:=by simpa using k1
 have n9:(o1==9)=false:=by simpa using k9
 have n10:(o1==10)=false:=by simpa using Gy
 obtain⟨u,hu⟩:=Ze ((atR K.n K.os o2).1);obtain⟨eg,gk⟩:=Ze ((atR K.n K.os o2).2);have fS:=CE;rw[<-hu,<-gk] at fS|-;obtain⟨B,hB⟩:=Ze (((eg==0)&&decide (u=(o1,o2))));rw[<-hB];have HB:=aa hB;obtain⟨F,hF⟩:∃F:List (Nat×Obj),F=[(ob,.cells #[Zi o1,Zi o2] 85 (0,0))]:=⟨_,rfl⟩
 rw[<-hF] at H2;have HM:Hid ((ob,.cells #[Zi o1,Zi o2] 85 (0,0))∈F):=by rw[hF];exact List.mem_cons_self
 have aK:Hid (∀G wv,fy w kb mb sb pb qb bb tb (G++F) K wv->Zc wv kb 2 (Zp pb)/\Zc wv ob 1 (Zi o2)):=λG wv h=>⟨h.c.2.2.1,(h.two (List.mem_append_right _ HM.j)).2⟩
 clear hp CE l9 hu gk hF k0 k1 k9 Gy hB;go_enter func101,ntmps101;go_upto_region 1 with fail
 rw[<-ag,<-az];clear ag az;obtain⟨w2,aT⟩:=Ze (w1);rw[<-aT] at H2 q0 q1|-;clear aT;go_upto_region 11 with fail
 go_cut [7,8] from 37 to 46 (λc7 c8 wx=>∃ub,c7=Zp ub/\c8=Zi eg/\Hid (fy w kb mb sb pb qb bb tb ((ub,.cells (iW u).toArray 85 (0,0))::F) K wx)/\Hid (∀p∈F,p.1≠ub))
 case first=>
  have cN:=aa H2.j.drew;have af:=aa (aK.j [] _ cN.j);obtain⟨wA,cJ⟩:=Ze ((w2.alloc (.cells #[Zi 0,Zi 0] 85)).drew);obtain⟨ub,bh⟩:=Ze (w2.heap.size);have gU:Hid (fy w kb mb sb pb qb bb tb ((ub,.cells uy.toArray 85 (0,0))::F) K wA):=by rw[cJ,bh];exact(H2.j.alloc _).drew
  have eT:=aa (aK.j [_] _ gU.j);have bG:Hid (∀p∈F,p.1≠ub):=λp hp he=>by have:=au (H2.j.f p hp).2;omega
  refine qg (S:=(λwv=>wv.cell? ⟨kb,2,none⟩=some (Zp pb)/\wv.cell? ⟨ob,1,none⟩=some (Zi o2))) Zx ?_;simp only[List.size_toArray,List.length_cons,List.length_nil,Nat.zero_add,Nat.reduceAdd];refine Zt 0 af.j ?_;refine Zt 1 af.j ?_;refine Zt 2 af.j ?_;refine Zt 3 af.j ?_;refine Zt 4 af.j ?_;refine Zt 5 af.j ?_;refine wpAnyH_ready (rs:=[6,10]) Zx (by simp) ?_;refine(AllReadyH.cons Zg (λK hK=>?_) (AllReadyH.cons Zg (λK hK=>?_) AllReadyH.nil))
  ·as_aux_lemma=>
    refine jy rfl 163 #[Operand.tmp 41,Operand.tmp 43] #[148,3] rfl #[Zp pb,Zi o2] (by first|rfl|simp[Act.eval,go_sem]) (by simp[go_sem]) (fS.j _ _ cN.j) ?_;rintro e w3 ⟨rfl,H3⟩;have aw:=aa (aK.j [] _ H3.j);clear bh cJ gU eT bG;obtain⟨ub,bh⟩:=Ze (w3.heap.size);obtain⟨wB,fU⟩:=Ze (w3.alloc (.cells #[Zi 0,Zi 0] 85));have fp:=aa (H3.j.alloc (.cells #[Zi 0,Zi 0] 85 (0,0)));rw[<-fU,<-bh] at fp;have mQ:=aa (aK.j [_] _ fp.j);have bG:Hid (∀p∈F,p.1≠ub):=λp hp he=>by have:=au (H3.j.f p hp).2;omega
    have bJ:=aa (fy.Om fp.j u bG.j);have dw:=aa (aK.j [_] _ bJ.j);have gq:=aa (fp.j.at List.mem_cons_self);refine⟨_,rfl,?_⟩;refine Zb hK aw.j ?_;refine Zt 7 aw.j ?_;refine Zt 8 aw.j ?_;refine Zt 9 aw.j ?_;refine Zy 10 (λK hK=>?_);go_simp;rw[<-fU,<-bh];clear fU bh;refine Zb hK mQ.j ?_;refine Zy 11 (λK hK=>?_);refine Ol (.tmp 7) (.tmp 45) rfl rfl (u:=u) (ub:=ub) (by simp[Act.eval]) (by simp[Act.eval,bO,iW]) gq.j ?_;refine Zb hK dw.j ?_;refine Zt 12 dw.j ?_;refine wpAnyH_done Zx ?_ _;go_wp2_with fail;go_meet;exact⟨_,rfl,rfl,bJ.j,bG.j⟩
  ·as_aux_lemma=>
    go_simp;rw[<-cJ,<-bh];clear cJ bh;refine Zb hK eT.j ?_;refine Zy 6 (λK hK=>?_);refine jy rfl 163 #[Operand.tmp 41,Operand.tmp 43] #[148,3] rfl #[Zp pb,Zi o2] (by first|rfl|simp[Act.eval,go_sem]) (by simp[go_sem]) (fS.j _ _ gU.j) ?_;rintro e w3 ⟨rfl,H3⟩;have aw:=aa (aK.j [_] _ H3.j);have bJ:=aa (fy.Om H3.j u bG.j);have dw:=aa (aK.j [_] _ bJ.j);have gq:=aa (H3.j.at List.mem_cons_self);refine⟨_,rfl,?_⟩;refine Zb hK aw.j ?_;refine Zt 7 aw.j ?_;refine Zt 8 aw.j ?_;refine Zt 9 aw.j ?_;refine Zy 11 (λK hK=>?_);refine Ol (.tmp 7) (.tmp 45) rfl rfl (u:=u) (ub:=ub) (by simp[Act.eval]) (by simp[Act.eval,bO,iW]) gq.j ?_;refine Zb hK dw.j ?_;refine Zt 12 dw.j ?_;refine wpAnyH_done Zx ?_ _;go_wp2_with fail;go_meet;exact⟨_,rfl,rfl,bJ.j,bG.j⟩
 case rest=>
  obtain⟨ub,rfl,rfl,H4,ua⟩:=hcut;obtain⟨u1,u2⟩:=u;obtain⟨d0,d1⟩:=H4.j.two (a0:=Zi u1) (a1:=Zi u2) List.mem_cons_self;obtain⟨q0,q1⟩:=H4.j.two (List.mem_cons_of_mem _ HM.j);by_cases g0:eg=0
  ·subst g0;by_cases g1:u1=o1
   ·by_cases g2:u2=o2
    ·subst g1 g2;obtain rfl:B=true:=by rw[HB.j,decide_eq_true (rfl:(u1,u2)=(u1,u2))];rfl
     go_wp2_with fail
     all_goals
      go_ret;exact⟨rfl,H4.j.o⟩
    ·have g3:(u2==o2)=false:=by simpa using g2
     obtain rfl:B=false:=by rw[HB.j,decide_eq_false (λh:(u1,u2)=(o1,o2)=>g2 (by injection h))];rfl
     subst g1;go_wp2_with fail
     all_goals
      go_ret;exact⟨rfl,H4.j.o⟩
   ·have g3:(u1==o1)=false:=by simpa using g1
    obtain rfl:B=false:=by rw[HB.j,decide_eq_false (λh:(u1,u2)=(o1,o2)=>g1 (by injection h))];rfl
    go_wp2_with fail
    all_goals
     go_ret;exact⟨rfl,H4.j.o⟩
  ·have g3:(eg==0)=false:=by simpa using g0
   obtain rfl:B=false:=by rw[HB.j,g3];rfl
   go_wp2_with fail
   all_goals
    go_ret;exact⟨rfl,H4.j.o⟩
end
section
variable {kb mb sb pb qb bb tb:Nat} {U V S:Nat->Prop} {w wv w1 w2:World} {K K2:Kn} {F:List (Nat×Obj)}
theorem Kc (x:Kt):∀T:List Kt,(iy x T).Perm (x::T)
 |[]=>List.Perm.refl _
 |y::r=>by
  unfold iy
  split
  ·exact List.Perm.refl _
  ·exact((Kc x r).cons y).trans (List.Perm.swap x y r)
theorem adx (x:Kt) (T:List Kt):(iy x T).length=T.length+1:=(Kc x T).length_eq
def Still (T:List Kt):Prop:=∀t∈T,t.nK= -1/\t.mT= -1
theorem WO {G G2:Int->Nat} {t:Kt} (h:t.nK= -1/\t.mT= -1):oK G2 t=oK G t:=by
 unfold oK uB;rw[h.1,h.2];rfl
def zI (n:Int):List Value:=[Zi n,Zi 0]++(jQ .u32 (λ_=>0)++[Zu 0,.pointer none,.pointer none,.bool false])
theorem WR (G:Int->Nat) (n:Int):oK G (ni n)=zI n:=rfl
theorem ax.aaM (h:ax U w kb mb sb pb qb bb tb K) (cG:Still K.T) (GZ:K.T.length<1000) {n:Int} (hn:aj n) (eH:n∉K.T.map (·.num)) {g:Nat} (hg:w1.heap[g]?=some (.cells (zI n).toArray 261 (0,0))) (fW:w.heap.size<=g) (ho:Zq w w1):
  ∃w3,(Instr.mapUpdate 155 (.map (some tb)) (Zi n) (Zp g)).run prog w1=.ok () w3/\ax U w3 kb mb sb pb qb bb tb {K with T:=iy (ni n) K.T}/\Zn U w w3:=by
 obtain⟨U2,⟨D,ks,G,hx⟩,agT,uX,kh⟩:=aD.open h 5 rfl;have tH:ks.length=K.T.length:=by rw[hx.kt.length_eq,List.length_map]
 have hnk:n∉ks:=λh9=>eH (hx.kt.mem_iff.1 h9)
 obtain⟨w3,aM,nD,aN⟩:=(hx.m.keep ho (λh=>h)).put (t:=155) (e:=201) underlying155 (by rw[tH];unfold maxLen;omega) n hn hnk g;have ia:=hx.m.keep ho (λh=>h);have hs3:=aN.size;have Aj:=ho.size;have wI:∀{b:Nat} {c:Array Value} {T:TypeId} {fr:Nat×Nat},w1.heap[b]?=some (.cells c T fr)->w3.heap[b]?=some (.cells c T fr):=λhb=>(aN.block _ (au hb) (ia.ne hb)).trans hb
 have cu:∀t∈K.T,t.num≠n:=λt ht e=>eH (e▸List.mem_map.2 ⟨t,ht,rfl⟩)
 have Ra:∀t∈K.T,G t.num<w.heap.size:=λt ht=>au (hx.th t ht)
 have hP:ph kb mb sb pb qb bb tb (iy (ni n) K.T) K.L K.ci K.co K.c U2 w3:=by
  refine⟨_,_,_,wI (ae.keep ho hx.k (λh=>h)),nD,?_,λt ht=>?_,λt ht s hs e=>?_,hx.uk,hx.um,λt ht=>?_,λk hk=>by have:=uX k hk;omega,by rw[adx];omega⟩
  ·refine((hx.kt.append_right [n]).trans ?_);refine(List.perm_append_comm).trans ?_;exact((Kc (ni n) K.T).map (·.num)).symm
  ·rcases zZ.1 ht with rfl|ht
   ·rw[show(ni n).num=n from rfl,zQ,WR];exact wI hg
   ·rw[vP _ _ (cu t ht),WO (G:=G) (cG t ht)];exact wI (ae.keep ho (hx.th t ht) (λh=>h))
  ·rcases zZ.1 ht with rfl|ht<;>rcases zZ.1 hs with rfl|hs
   ·rfl
   ·rw[show(ni n).num=n from rfl,zQ,vP _ _ (cu s hs)] at e;have:=Ra s hs;omega
   ·rw[show(ni n).num=n from rfl,zQ,vP _ _ (cu t ht)] at e;have:=Ra t ht;omega
   ·rw[vP _ _ (cu t ht),vP _ _ (cu s hs)] at e;exact hx.gi t ht s hs e
  ·rcases zZ.1 ht with rfl|ht
   ·rw[show(ni n).num=n from rfl,zQ];intro hu;have:=uX g hu;omega
   ·rw[vP _ _ (cu t ht)];exact hx.ut t ht
 have hO:Zn U2 w w3:=(ho.f).trans (aN.mono (λk _ hk=>by subst hk;exact hx.um));exact⟨w3,aM,kh _ w3 ph.bj hP hO⟩
theorem Ya (n:Int) (w:World):(Instr.build 261 #[(0,Zi n)]).run prog w=.ok (.agg (zI n).toArray) w:=Zx
theorem afI {o:Oper} {act:Act} (x:Operand) (ho:o.op=.build 261 #[(0,x)]) {n:Int} (hx:act.eval x=Zi n):(execOp act.eval o).run prog w=.ok (.value (.agg (zI n).toArray)) w:=by
 have aM:=Ya n w;generalize (zI n).toArray=c at aM;simp only[execOp,ho];simp[hx,aM,Result.andThen]
theorem Ts (h:ax U w kb mb sb pb qb bb tb K) (bq:K.bs.length<1000000) (Ay:K.b.ps.length<1000000) (ah:K.T.length<1000) (cG:Still K.T) (k n size:Int) (hn:aj n) (eH:k=6->n∉K.T.map (·.num)):Zk 100 #[Zp kb,.agg #[Zi k,Zi n],Zi size] w λe w'=>Zr e (.tuple #[])/\ax U w' kb mb sb pb qb bb tb (if k=1 then K else ly K (k,n) size)/\Zn U w w':=by
 obtain⟨w1,ag⟩:=Ze (w.alloc (.cells #[Zi k,Zi n] 85));obtain⟨ob,az⟩:=Ze (w.heap.size);have H2:Hid (aq U w kb mb sb pb qb bb tb [(ob,.cells #[Zi k,Zi n] 85 (0,0))] K w1):=by rw[ag,az];exact(aq.start h).alloc _
 obtain⟨q0,q1⟩:=H2.j.two List.mem_cons_self;clear h;by_cases k1:k=1
 ·subst k1;rw[if_pos rfl];clear bq Ay ah cG hn eH;go_enter func100,ntmps100;go_upto_region 1 with fail
  rw[<-ag,<-az];clear ag az;go_wp2_with fail
  all_goals
   (try simp only[Exit.inBlock,Exit.then])
   refine bodyPost_ret (results_none rfl _ _ _) rfl ?_;exact⟨rfl,H2.j.fin⟩
 rw[if_neg k1];have n1:(k==1)=false:=by simpa using k1
 obtain⟨K1,pV⟩:=Ze ({K with f:=(j5 K.f K.n n).1});have HZ:Hid (∀F wv,aq U w kb mb sb pb qb bb tb F K wv->Zk 160 #[Zp mb,Zi n] wv λe w'=>Zr e (Zi ((j5 K.f K.n n).2:Nat))/\Hid (aq U w kb mb sb pb qb bb tb F K1 w')):=λF wv h=>by rw[pV];exact h.call (λV h=>h.zero n)
 have ar:Hid (∀F K' wv,aq U w kb mb sb pb qb bb tb ((ob,.cells #[Zi k,Zi n] 85 (0,0))::F) K' wv->(Zc wv kb 0 (Zp mb)/\Zc wv ob 1 (Zi n))/\(Zc wv kb 1 (Zp sb)/\Zc wv ob 1 (Zi n))/\(Zc wv kb 4 (Zp bb)/\Zc wv ob 1 (Zi n)/\Zc wv ob 0 (Zi k))/\(Zc wv kb 5 (.map (some tb))/\Zc wv ob 1 (Zi n))):=λF K' wv h=>⟨⟨h.c.1,(h.two List.mem_cons_self).2⟩,⟨h.c.2.1,(h.two List.mem_cons_self).2⟩,⟨h.c.2.2.2.2.1,(h.two List.mem_cons_self).2,(h.two List.mem_cons_self).1⟩,⟨h.c.2.2.2.2.2,(h.two List.mem_cons_self).2⟩⟩
 have IL:Hid (ly K (k,n) size=(if k=5 then {K1 with bs:=fH K1.bs n size} else if k=6 then {K1 with bs:=fH K1.bs n 4,T:=iy (ni n) K1.T} else if k=7\/k=8 then {K1 with b:=jR K1.b n (decide (k=8))} else K1)):=by rw[pV];rfl
 have HL:Hid (K1.bs.length<1000000/\K1.b.ps.length<1000000/\K1.T.length<1000/\Still K1.T/\(k=6->n∉K1.T.map (·.num))):=by rw[pV];exact⟨bq,Ay,ah,cG,eH⟩
 have HN:=aa hn;obtain⟨KE,aS⟩:=Ze (ly K (k,n) size);rw[<-aS];have gD:=aa (aS.trans IL.j);obtain⟨ez,R8⟩:∃ez:Int,ez=((j5 K.f K.n n).2:Nat):=⟨_,rfl⟩
 rw[<-R8] at HZ;have af:=aa (ar.j _ _ _ H2.j.drew).1;have ak:=af;have TV:=aa (HZ.j _ _ H2.j.drew);clear bq Ay ah cG hn eH pV IL R8 k1 HZ aS;go_enter func100,ntmps100;go_upto_region 1 with fail
 rw[<-ag,<-az];clear ag az;go_upto_region 2 with fail
 clear q0 q1;go_region_held3 (λwv=>Zc wv kb 0 (Zp mb)/\Zc wv ob 1 (Zi n)) (with_reducible (first|exact af.j|exact ak.j)) (first|(go_at_call 160;refine TV.j.m ?_;rintro e w2 ⟨rfl,H3⟩;have ak:=aa (ar.j _ _ _ H3.j).1));obtain⟨q0,q1⟩:=H3.j.two List.mem_cons_self;clear af ak TV H2;by_cases k5:k=5
 ·subst k5;rw[if_pos rfl] at gD;go_upto_region 5 with fail
  clear q0 q1;have af:=aa (ar.j _ _ _ H3.j.drew).2.1;have ak:=af;have fL:=aa (H3.j.drew.call (λV h=>h.make n size HN.j HL.j.1));go_region_held3 (λwv=>Zc wv kb 1 (Zp sb)/\Zc wv ob 1 (Zi n)) (with_reducible (first|exact af.j|exact ak.j)) (first|(go_at_call 161;refine fL.j.m ?_;rintro e w3 ⟨rfl,H4⟩;have ak:=aa (ar.j _ _ _ H4.j).2.1));go_wp2_with fail
  all_goals
   go_end0;exact⟨rfl,by rw[gD.j];exact H4.j.fin⟩
 rw[if_neg k5] at gD;have n5:(k==5)=false:=by simpa using k5
 clear k5;by_cases k6:k=6
 ·subst k6;rw[if_pos rfl] at gD;go_upto_region 7 with fail
  clear q0 q1;have af:=aa (ar.j _ _ _ H3.j.drew).2.1;have ak:=af;have fL:=aa (H3.j.drew.call (λV h=>h.make n 4 HN.j HL.j.1));go_region_held3 (λwv=>Zc wv kb 1 (Zp sb)/\Zc wv ob 1 (Zi n)) (with_reducible (first|exact af.j|exact ak.j)) (first|(go_at_call 161;refine fL.j.m ?_;rintro e w3 ⟨rfl,H4⟩;have ak:=aa (ar.j _ _ _ H4.j).2.1));clear af ak fL;go_upto_region 8 with fail
  have af:=aa (ar.j _ _ _ H4.j.drew).2.2.2;obtain⟨wA,cJ⟩:=Ze ((w3.alloc (.cells (zI n).toArray 261)).drew);obtain⟨gb,mD⟩:=Ze (w3.heap.size);have wE:Zq w3 wA:=by rw[cJ];exact((ae.refl _ w3).alloc _).drew
  have eT:=aa (ar.j _ _ _ (H4.j.quiet wE)).2.2.2;have R2:wA.heap[gb]?=some (.cells (zI n).toArray 261 (0,0)):=by rw[cJ,mD];exact heap_alloc_last w3 _
  obtain⟨w4,aM,DR⟩:∃w4,(Instr.mapUpdate 155 (.map (some tb)) (Zi n) (Zp gb)).run prog wA=.ok () w4/\(ax U w4 kb mb sb pb qb bb tb {K1 with bs:=fH K1.bs n 4,T:=iy (ni n) K1.T}/\Zn U w w4):=by
   obtain⟨w4,h1,h2,h3⟩:=ax.aaM (K:={K1 with bs:=fH K1.bs n 4}) H4.j.fin.1 HL.j.2.2.2.1 HL.j.2.2.1 HN.j (by first|exact HL.j.2.2.2.2 rfl|exact HL.j.2.2.2.2 trivial) R2 (by rw[mD];exact Nat.le_refl _) wE;exact⟨w4,h1,h2,H4.j.fin.2.trans h3⟩
  have HF:=aa DR;clear wE R2 DR;refine zH (S:=(λwv=>wv.cell? ⟨kb,5,none⟩=some (.map (some tb))/\wv.cell? ⟨ob,1,none⟩=some (Zi n))) 10 Zx Zg Zx ?_;simp only[mh,tc,List.setIfInBounds_toArray,List.set_cons_zero,List.set_cons_succ,List.size_toArray,List.length_cons,List.length_nil,Nat.zero_add,Nat.reduceAdd];refine Zt 0 af.j ?_;refine Zt 1 af.j ?_;refine Zt 2 af.j ?_;refine Zt 3 af.j ?_;refine Zt 4 af.j ?_;refine Zt 5 af.j ?_;refine Zt 6 af.j ?_;refine Zt 7 af.j ?_;refine wpAnyH_take (i:=8) (v:=?v8_8) Zg Zx Zx Zx (by exact λ_ _ _ h=>h) (Or.inl ⟨by rfl,?hy8_8⟩) af.j ?_
  case hy8_8=>(intro wq nH;refine(afI (.tmp 44) rfl rfl).trans ?_;with_reducible rfl)
  try simp only[Act.put,List.setIfInBounds_toArray,List.set_cons_zero,List.set_cons_succ]
  refine Zy 9 (λK hK=>?_);go_simp;rw[<-cJ,<-mD];clear cJ mD;refine Zb hK eT.j ?_;refine wpAnyH_take (i:=10) (v:=undef) Zg Zx Zx Zx (by exact λ_ _ _ h=>h) (Or.inr ⟨by rfl,rfl⟩) eT.j ?_;refine wpAnyH_done Zx ?_ _;simp only[vH];go_wp2_with fail
  all_goals
   go_end0;exact⟨rfl,by rw[gD.j];exact HF.j⟩
 rw[if_neg k6] at gD;have n6:(k==6)=false:=by simpa using k6
 clear k6;by_cases k7:k=7
 ·subst k7;rw[if_pos (Or.inl rfl)] at gD;go_upto_region 11 with fail
  clear q0 q1;have af:=aa (ar.j _ _ _ H3.j.drew).2.2.1;have ak:=af;have fL:=aa (H3.j.drew.call (λV h=>h.zO n HN.j (decide ((7:Int)=8)) HL.j.2.1));go_region_held3 (λwv=>Zc wv kb 4 (Zp bb)/\Zc wv ob 1 (Zi n)/\Zc wv ob 0 (Zi 7)) (with_reducible (first|exact af.j|exact ak.j)) (first|(go_at_call 162;refine fL.j.m ?_;rintro e w3 ⟨rfl,H4⟩;have ak:=aa (ar.j _ _ _ H4.j).2.2.1));go_wp2_with fail
  all_goals
   go_end0;exact⟨rfl,by rw[gD.j];exact H4.j.fin⟩
 have n7:(k==7)=false:=by simpa using k7
 by_cases k8:k=8
 ·subst k8;rw[if_pos (Or.inr rfl)] at gD;go_upto_region 11 with fail
  clear q0 q1;have af:=aa (ar.j _ _ _ H3.j.drew).2.2.1;have ak:=af;have fL:=aa (H3.j.drew.call (λV h=>h.zO n HN.j (decide ((8:Int)=8)) HL.j.2.1));go_region_held3 (λwv=>Zc wv kb 4 (Zp bb)/\Zc wv ob 1 (Zi n)/\Zc wv ob 0 (Zi 8)) (with_reducible (first|exact af.j|exact ak.j)) (first|(go_at_call 162;refine fL.j.m ?_;rintro e w3 ⟨rfl,H4⟩;have ak:=aa (ar.j _ _ _ H4.j).2.2.1));go_wp2_with fail
  all_goals
   go_end0;exact⟨rfl,by rw[gD.j];exact H4.j.fin⟩
 rw[if_neg (λh=>h.elim k7 k8)] at gD;have n8:(k==8)=false:=by simpa using k8
 clear k7 k8;go_wp2_with fail
 all_goals
  go_end0;exact⟨rfl,by rw[gD.j];exact H3.j.fin⟩
end
end Go.Proofs.YtphkconoooeidaaGreatDoor

import Derived.Test.YtdjlkahbpdoemaaGreatDoorCq25
import Derived.Defers
import Derived.Laws.Pointers
import Derived.Recover
set_option maxRecDepth 100000
set_option maxHeartbeats 8000000
set_option linter.unusedVariables false
set_option linter.unusedSimpArgs false
open Go Go.Vx Go.Proofs.Tryz Go.ChangeShapes Go.WideShapes Go.ChangeAt Go.RowKit
variable {act:Act}{cs:Array Value}{rc:Cp}{D:DataW Value}{Q:Exit->Act->World->Prop}{cz im root:Int}{G:Int->Nat}{F:List (Nat×Obj)}{ci co:List (Z2)}{ks:List Int}{q:List Nat}{Ps:List ff}{a b bb bm cb eb i kb lB mb n op pb pc qb rd sb t tb tv ub va:Nat}{R R':Nat->Nat}{o:Oper}{T:TypeId}{w w' w1 w2 w6 wv:Z0}{S U V:Z1}
namespace Go.Proofs.YtdjlkahbpdoemaaGreatDoor
theorem zR(h:Below w.heap.size w w'):Zq w w':=H.zS h (λk h1 a=>Z)
def aqc(x:Nat)(i:Ins)(e:Ending):Prop:=(i.op=0/\e=.panicked (Bb 2 x))\/(i.op≠0/\Zr e (fj i))
theorem anw{off:Nat}{f:Nat->UInt8}(h:cP U w bm n f)(K:rY w)(N:tO w)(P:dX w)(A:UB w cb off R pc)(Q:pc<4294967296)(root a)(hp:jL f n root pc 4 0=.ok a):
  Zk 144 #[.agg #[M bm,O root,.pointer (some (E cb off))]] w λe w'=>aqc (bM f a) (dec (bM f a:Nat)) e/\Zq w w':=by
 have B:=ahp (Or.inr (Or.inr rfl)) hp;have S:Hid (∀wv,Zq w wv->Zk 228 #[.agg #[M bm,O root,.pointer (some (E cb off))],J (pc:Int),J 4,O 0] wv λe w'=>Zr e (O (a:Nat))/\Hid (Zq wv w')):=λwv hv=>by
  refine(am9 (h.only hv (λ_ h _=>h.elim)) (K.only hv id) (N.only hv id) root (E cb off) pc Q 4 I I 0 I).m ?_;rintro e w' ⟨⟨c',t',h1,_⟩|⟨a',h1,rfl⟩,j⟩
  ·rw[hp] at h1;cases h1
  rw[hp] at h1;injection h1 with h1
  subst h1;exact⟨rfl,j⟩
 have C:Hid (∀wv,Zq w wv->Zk 227 #[M bm,O (a:Nat)] wv λe w'=>Zr e (.tuple #[J (bM f a:Nat),O 0])/\Hid (Zq wv w')):=λwv hv=>by
  refine(LL (h.only hv (λ_ h _=>h.elim)) a B.1 B.2).m ?_;rintro e w' ⟨rfl,j⟩;exact⟨rfl,j⟩
 have T:=LN f a;have s:Hid (∀wv,Zq w wv->Zk 229 #[J (bM f a:Nat)] wv λe w'=>Zr e (fj (dec (bM f a:Nat)))/\Hid (Zq wv w')):=λwv hv=>by
  refine(ab3 (bM f a:Nat) Z Z wv (P.only hv id)).m ?_;rintro e w' ⟨rfl,hb⟩;exact⟨rfl,zR hb⟩
 have D:=World.block_lt_of_cell? w _ A.p;have V:=A.p;generalize bM f a=x at C s T|-;obtain⟨⟨op,rd,r1,r2,im⟩,W⟩:∃i,dec (x:Nat)=i:=⟨_,rfl⟩
 rw[W] at s|-;clear h K N A Q hp B P W T;unfold fj at*;simp only at*;go_enter func144,ntmps144;go_wp2_with fail;obtain⟨b,l⟩:=Ze (((w.alloc (.cells #[M bm,O root,.pointer (some (E cb off))] 238)).alloc (.cells #[O 0,O 0,O 0,O 0,O 0] 287)));have k:Hid (Zq w b):=by rw[l];exact((H.refl _ w).alloc _).alloc _
 have hb:b.heap[w.heap.size]?=some (.cells #[M bm,O root,.pointer (some (E cb off))] 238 (0,0)):=by
  rw[l,RowKit.Below.heap_alloc _ _ _ (by simp)];exact heap_alloc_last w _
 have X:b.heap[w.heap.size+1]?=some (.cells #[O 0,O 0,O 0,O 0,O 0] 287 (0,0)):=by
  rw[l];have:=heap_alloc_last (w.alloc (.cells #[M bm,O root,.pointer (some (E cb off))] 238)) (.cells #[O 0,O 0,O 0,O 0,O 0] 287);simpa using this
 have g0:b.cell? (E w.heap.size 0)=some (M bm):=by rw[cell_of_row _ _ 0 _ _ (0,0) hb];rfl
 have g1:b.cell? (E w.heap.size 1)=some (O root):=by rw[cell_of_row _ _ 1 _ _ (0,0) hb];rfl
 have g2:b.cell? (E w.heap.size 2)=some (.pointer (some (E cb off))):=by rw[cell_of_row _ _ 2 _ _ (0,0) hb];rfl
 have g3:b.cell? (E cb (off+32))=some (J (pc:Int)):=by rw[k.j.cell (p:=E cb (off+32)) D id];exact V
 have t:=aB hb;have dA:cb<b.heap.size:=Nat.lt_of_lt_of_le D k.j.size;rw[<-l];have F:=Y X;clear l hb V X;have⟨g,hg⟩:=Ze (w.heap.size);rw[<-hg] at g0 g1 g2 D t F|-;have HG:Hid (w.heap.size<=g):=by show w.heap.size<=g;omega
 clear hg
 have u:Hid (∀wv,Zq b wv->Zc wv g 0 (M bm)/\Zc wv g 1 (O root)/\Zc wv g 2 (.pointer (some (E cb off)))/\Zc wv cb (off+32) (J (pc:Int))):=λwv hv=>
  ⟨(hv.cell (p:=E g 0) t id).trans g0,(hv.cell (p:=E g 1) t id).trans g1,(hv.cell (p:=E g 2) t id).trans g2,(hv.cell (p:=E cb (off+32)) dA id).trans g3⟩
 have m:Hid (Hid (Zq b b.drew)):=(H.refl (λ_=>False) b).drew;go_region_held3 (λwv=>Hid (Zq b wv)/\Zc wv g 0 (M bm)/\Zc wv g 1 (O root)/\Zc wv g 2 (.pointer (some (E cb off)))/\Zc wv cb (off+32) (J (pc:Int))) (first|exact⟨m.j,u.j _ m.j⟩|exact⟨o,u.j _ o⟩|exact⟨q,u.j _ q⟩) (first|(go_at_call 228;refine(S.j _ (k.j.trans m.j)).m ?_;rintro e w5 ⟨rfl,y⟩;have q:=Y (m.j.trans y))|(go_at_call 227;refine(C.j _ (k.j.trans q)).m ?_;rintro e w6 ⟨rfl,y⟩;have o:=Y (q.j.trans y)));go_wp2_with fail;refine(s.j _ (k.j.trans o)).m ?_;rintro z c ⟨rfl,h8⟩;have G:=Y (o.j.trans h8)
 have d:c.heap[g+1]?=some (.cells #[O 0,O 0,O 0,O 0,O 0] 287 (0,0)):=by
  rw[G.j.block (g+1) (aB F.j) id];exact F.j
 have al:g+1<c.heap.size:=aB d;have HH:Hid (w.heap.size<=g):=HG;have z0:c.cell? ⟨g+1,0,none⟩=some (O 0):=by rw[cell_of_row _ _ 0 _ _ (0,0) d];rfl
 have y0:c.frozen? ⟨g+1,0,none⟩=false:=by simp[World.frozen?,d]
 have z1:c.cell? ⟨g+1,1,none⟩=some (O 0):=by rw[cell_of_row _ _ 1 _ _ (0,0) d];rfl
 have y1:c.frozen? ⟨g+1,1,none⟩=false:=by simp[World.frozen?,d]
 have z2:c.cell? ⟨g+1,2,none⟩=some (O 0):=by rw[cell_of_row _ _ 2 _ _ (0,0) d];rfl
 have y2:c.frozen? ⟨g+1,2,none⟩=false:=by simp[World.frozen?,d]
 have z3:c.cell? ⟨g+1,3,none⟩=some (O 0):=by rw[cell_of_row _ _ 3 _ _ (0,0) d];rfl
 have y3:c.frozen? ⟨g+1,3,none⟩=false:=by simp[World.frozen?,d]
 have z4:c.cell? ⟨g+1,4,none⟩=some (O 0):=by rw[cell_of_row _ _ 4 _ _ (0,0) d];rfl
 have y4:c.frozen? ⟨g+1,4,none⟩=false:=by simp[World.frozen?,d]
 clear h8 o q y s C S u m g0 g1 g2 g3 d;by_cases j:op=0
 ·subst j;go_wp2_with fail
  all_goals
   refine⟨rfl,Or.inl ⟨rfl,rfl⟩,(k.j.trans G.j).alloc _⟩
 have NH:(op==0)=false:=by simpa using j
 go_wp2_with fail;refine bodyPost_ret (v:=fj ⟨op,rd,r1,r2,im⟩) ?_ rfl ⟨Or.inr ⟨j,rfl⟩,?_⟩
 ·simp[results,results144,go_sem,fj,al,z0,z1,z2,z3,z4]
 have r:w.heap.size<=g+1:=Nat.le_succ_of_le HH.j;exact((((((k.j.trans G.j).setCell (p:=⟨g+1,0,none⟩) (Or.inr r) _).setCell (p:=⟨g+1,1,none⟩) (Or.inr r) _).setCell (p:=⟨g+1,2,none⟩) (Or.inr r) _).setCell (p:=⟨g+1,3,none⟩) (Or.inr r) _).setCell (p:=⟨g+1,4,none⟩) (Or.inr r) _).alloc _
structure lu(w:Z0)(cb off:Nat)(T:TypeId)(cs:Array Value)(R:Nat->Nat)(pc:Nat):Prop where
 b:w.heap[cb]?=some (.cells cs T (0,0))
 r:∀i,i<32->cs[off+i]?=some (J (R i:Nat))
 p:cs[off+32]?=some (J (pc:Int))
theorem lu.ctx{off:Nat}(h:lu w cb off T cs R pc):UB w cb off R pc:=
 ⟨λi hi=>(cell_of_row _ _ (off+i) _ _ (0,0) h.b)▸h.r i hi,(cell_of_row _ _ (off+32) _ _ (0,0) h.b)▸h.p⟩
theorem lu.only{off:Nat}(h:lu w cb off T cs R pc)(a:H S w w')(b:¬S cb):lu w' cb off T cs R pc:=
 ⟨(a.block cb (aB h.b) b)▸h.b,h.r,h.p⟩
theorem lu.fz{off:Nat}(h:lu w cb off T cs R pc)(j):w.frozen? (E cb j)=false:=by
 simp[World.frozen?,h.b]
def zD(cs ml:Array Value)(off:Nat):Prop:=ml.size=cs.size/\∀j,(j<off\/off+33<=j)->ml[j]?=cs[j]?
theorem zD.trans{a b c:Array Value}{off:Nat}(h:zD a b off)(k:zD b c off):zD a c off:=⟨k.1.trans h.1,λj d=>(k.2 j d).trans (h.2 j d)⟩
theorem lu.VY{off:Nat}(h:lu w cb off T cs R pc)(v:Nat):
  ∃a,lu (w.setCell (E cb (off+32)) (J (v:Int))) cb off T a R v/\zD cs a off:=by
 refine⟨cs.setIfInBounds (off+32) (J (v:Int)),⟨heap_setCell_same _ _ _ _ _ _ h.b,λi hi=>?_,?_⟩,by simp,λj b=>?_⟩
 ·rw[Array.getElem?_setIfInBounds,if_neg Z];exact h.r i hi
 ·rw[Array.getElem?_setIfInBounds,if_pos rfl,if_pos ((Array.getElem?_eq_some_iff.1 h.p).1)]
 rw[Array.getElem?_setIfInBounds,if_neg Z]
theorem lu.jv{off:Nat}(h:lu w cb off T cs R pc)(rd v:Nat)(dn:rd<32)(c:rd≠0):
  ∃a,lu (w.setCell (E cb (off+rd)) (J (v:Int))) cb off T a (jv R rd v) pc/\zD cs a off:=by
 have d:off+32<cs.size:=(Array.getElem?_eq_some_iff.1 h.p).1;refine⟨cs.setIfInBounds (off+rd) (J (v:Int)),⟨heap_setCell_same _ _ _ _ _ _ h.b,λi hi=>?_,?_⟩,by simp,λj e=>?_⟩
 ·rw[Array.getElem?_setIfInBounds];unfold Vx.jv;rw[if_neg c];by_cases b:i=rd
  ·rw[if_pos Z,if_pos Z,if_pos b]
  rw[if_neg Z,if_neg b];exact h.r i hi
 ·rw[Array.getElem?_setIfInBounds,if_neg Z];exact h.p
 rw[Array.getElem?_setIfInBounds,if_neg Z]
theorem aho{f:Nat->UInt8}{len u:Nat}(h:jL f n root va len u=.ok a):va % len=0:=by
 unfold jL Bn at h;split at h
 ·cases h
 rename_i h1;simpa using h1
theorem QG(a:pc % 4=0):m32 ((pc:Int)+4) % 4=0:=by unfold m32;omega
theorem Ib(R v):jv R 0 v=R:=if_pos rfl
theorem Pt(h:op≠3/\op≠4/\(op<5\/10<op)):Dq op a b im pc=m32 ((pc:Int)+4):=by
 unfold Dq;rw[if_neg Z,if_neg Z,if_neg Z]
theorem aaY{f:Nat->UInt8}(c:pc % 4=0)(h:(28<=op/\op<=37)\/(41<=op/\op<=48)):gK f n root R pc op rd a b im=.ok (f,jv R rd (tK op a b),m32 ((pc:Int)+4)):=by
 unfold gK;rw[if_neg Z,if_neg Z,if_neg Z,if_neg Z,Pt Z,if_pos (by unfold PV;simp;omega)];unfold Bm;rw[if_neg (by have:=QG c;omega)];unfold Hs;rw[if_neg Z,if_neg Z,if_neg Z,if_neg Z]
theorem anA{f:Nat->UInt8}(c:pc % 4=0)(h:19<=op/\op<=27):gK f n root R pc op rd a b im=.ok (f,jv R rd (tK op a (m32 im)),m32 ((pc:Int)+4)):=by
 unfold gK;rw[if_neg Z,if_neg Z,if_neg Z,if_neg Z,Pt Z,if_pos (by unfold PV;simp;omega)];unfold Bm;rw[if_neg (by have:=QG c;omega)];unfold Hs;rw[if_neg Z,if_neg Z,if_neg Z,if_pos h]
theorem anx{f:Nat->UInt8}(c:pc % 4=0):gK f n root R pc 1 rd a b im=.ok (f,jv R rd (m32 (im*4096)),m32 ((pc:Int)+4)):=by
 unfold gK;rw[if_neg Z,if_neg Z,if_neg Z,if_neg Z,Pt Z,if_pos (by rfl)];unfold Bm;rw[if_neg (by have:=QG c;omega)];rfl
theorem anz{f:Nat->UInt8}:gK f n root R pc 3 rd a b im=Bm f R rd (m32 ((pc:Int)+4)) (m32 ((pc:Int)+im)):=rfl
def pU(U:Z1)(w:Z0)(bm n cb off:Nat)(T:TypeId)(cs:Array Value)(r:zo)(e:Ending)(w':Z0):Prop:=
 (∃c t,r=.error (c,t)/\e=.panicked (Bb c t)/\Zq w w')\/
 ∃f' R' lB,r=.ok (f',R',lB)/\Zr e (.tuple #[])/\cP U w' bm n f'/\(∃ml,lu w' cb off T ml R' lB/\zD cs ml off)/\H (λk=>¬U k\/k=cb) w w'
theorem Ig{off:Nat}{f':Nat->UInt8}(hu:U cb)(hm:cP U w6 bm n f')(b:lu w6 cb off T cs R pc)(c:Zn U w w6)(dst r)(hr:r=.ok (f',R,dst)):
  pU U w bm n cb off T cs r (.returned (.tuple #[])) (w6.setCell (E cb (off+32)) (J (dst:Int))):=by
 have a:H (λk=>k=cb) w6 (w6.setCell (E cb (off+32)) (J (dst:Int))):=H.setCell (p:=E cb (off+32)) (S:=λk=>k=cb) (H.refl _ w6) (Or.inl rfl) _;exact Or.inr ⟨f',R,dst,hr,rfl,hm.only a (λk hk _=>hk▸hu),b.VY dst,(c.mono (λ_ _ h=>Or.inl h)).trans (a.mono (λ_ _ h=>Or.inr h))⟩
theorem Ie{off:Nat}{f':Nat->UInt8}(hu:U cb)(hm:cP U w6 bm n f')(c:lu w6 cb off T cs R pc)(d:Zn U w w6)(rd v dst)(dn:rd<32)(e:rd≠0)(r)(hr:r=.ok (f',jv R rd v,dst)):
  pU U w bm n cb off T cs r (.returned (.tuple #[])) ((w6.setCell (E cb (off+rd)) (J (v:Int))).setCell (E cb (off+32)) (J (dst:Int))):=by
 have f:H (λk=>k=cb) w6 (w6.setCell (E cb (off+rd)) (J (v:Int))):=H.setCell (p:=E cb (off+rd)) (S:=λk=>k=cb) (H.refl _ w6) (Or.inl rfl) _;have b:H (λk=>k=cb) w6 ((w6.setCell (E cb (off+rd)) (J (v:Int))).setCell (E cb (off+32)) (J (dst:Int))):=H.setCell (p:=E cb (off+32)) (S:=λk=>k=cb) f (Or.inl rfl) _;have⟨g,h1,i⟩:=c.jv rd v dn e;have⟨a,j,l⟩:=h1.VY dst;exact Or.inr ⟨f',_,dst,hr,rfl,hm.only b (λk hk _=>hk▸hu),⟨a,j,i.trans l⟩,(d.mono (λ_ _ h=>Or.inl h)).trans (b.mono (λ_ _ h=>Or.inr h))⟩
def jl(b:Bool)(c:Int)(t:Nat):Array Value:=#[.bool b,O c,J (t:Int)]
theorem Tk{b:Bool}{c:Int}(hb:w.heap[eb]?=some (.cells (jl b c t) 58 (0,0)))(a c2)(t2:Nat):
  (((w.setCell (E eb 0) (.bool a)).setCell (E eb 1) (O c2)).setCell (E eb 2) (J (t2:Int))).heap[eb]?=some (.cells (jl a c2 t2) 58 (0,0))/\H (λk=>k=eb) w (((w.setCell (E eb 0) (.bool a)).setCell (E eb 1) (O c2)).setCell (E eb 2) (J (t2:Int))):=by
 have o0:H (λk=>k=eb) w w:=H.refl _ w;refine⟨?_,((o0.setCell (p:=E eb 0) (Or.inl rfl) _).setCell (p:=E eb 1) (Or.inl rfl) _).setCell (p:=E eb 2) (Or.inl rfl) _⟩;rw[heap_setCell_same _ _ _ _ _ _ (heap_setCell_same _ _ _ _ _ _ (heap_setCell_same _ _ _ _ _ _ hb))];rfl
theorem adP(p w):
  CallsD prog 143 #[.pointer (some p)] .returning w λe a w'=>Zr e (.tuple #[])/\a=.returning/\w'=w:=by
 refine callsD_of_wpS func143 rfl λb cs hu=>?_;apply wpS_seq;apply wpS_region;simp[wpOpsS,go_sem,recoverD,hu,ntmps143,Exit.thenS];have c:∀w,(binOp .eql 20 .nilIface .nilIface).run prog w=.ok (.bool true) w:=λ_=>Zx;refine wpS_of_wp ?_;go_wp2_with fail;cases b;simp_all [bodyPostS,results,results143]
theorem adN(eb c)(t:Nat)(a w)(hb:w.heap[eb]?=some (.cells (jl false 0 0) 58 (0,0))):
  CallsD prog 143 #[M eb] (.panicking ({v:=.iface 285 (.agg #[O c,J (t:Int)]),recovered:=false}::a)) w λe b w'=>
   Zr e (.tuple #[])/\b=.panicking ({v:=.iface 285 (.agg #[O c,J (t:Int)]),recovered:=true}::a)/\w'.heap[eb]?=some (.cells (jl true c t) 58 (0,0))/\H (λk=>k=eb) w w':=by
 refine callsD_of_wpS func143 rfl λf cs hu=>?_;apply wpS_seq;apply wpS_region;simp[wpOpsS,go_sem,recoverD,hu,ntmps143,Exit.thenS];have g:∀w,(binOp .eql 20 (.iface 285 (.agg #[O c,J (t:Int)])) .nilIface).run prog w=.ok (.bool false) w:=λ_=>Zx;have h:∀w,(Instr.typeAssert (.iface 285 (.agg #[O c,J (t:Int)])) 20 285 true).run prog w=.ok (.tuple #[.agg #[O c,J (t:Int)],.bool true]) w:=λ_=>Zx
 have i:w.cell? (E eb 0)=some (.bool false):=by rw[cell_of_row _ _ 0 _ _ (0,0) hb];rfl
 have h1:w.cell? (E eb 1)=some (O 0):=by rw[cell_of_row _ _ 1 _ _ (0,0) hb];rfl
 have j:w.cell? (E eb 2)=some (J 0):=by rw[cell_of_row _ _ 2 _ _ (0,0) hb];rfl
 have f0:w.frozen? (E eb 0)=false:=by simp[World.frozen?,hb]
 have f1:w.frozen? (E eb 1)=false:=by simp[World.frozen?,hb]
 have f2:w.frozen? (E eb 2)=false:=by simp[World.frozen?,hb]
 have l:eb<w.heap.size:=aB hb;obtain⟨s1,s2⟩:=Tk hb true c t;have d:Hid (∀o,(((((w.setCell (E eb 0) (.bool true)).setCell (E eb 1) (O c)).setCell (E eb 2) (J (t:Int))).alloc o).heap[eb]?=some (.cells (jl true c t) 58 (0,0)))/\H (λk=>k=eb) w ((((w.setCell (E eb 0) (.bool true)).setCell (E eb 1) (O c)).setCell (E eb 2) (J (t:Int))).alloc o)):=λo=>⟨by rw[RowKit.Below.heap_alloc _ _ _ (aB s1)];exact s1,s2.alloc o⟩
 clear hb s1 s2;refine wpS_of_wp ?_;go_wp2_with fail;simp[bodyPostS,results,results143];exact d.j _
theorem adO(sv w)(Q:World->Prop)(h:Zk 100 #[sv] (w.alloc (.cells (jl false 0 0) 58)) λe w'=>Zr e (.tuple #[])/\Q w'/\w'.heap[w.heap.size]?=some (.cells (jl false 0 0) 58 (0,0))):
  Zk 99 #[.func (.func 100) #[sv] #[]] w λe w'=>Zr e (.agg (jl false 0 0))/\∃w1,Q w1/\H (λk=>k=w.heap.size) w1 w':=by
 have n:∀(fn:Fn) (first cap:Array Value) (w:Z0),(Instr.makeFunc fn first cap).run prog w=.ok (.func fn first cap) w:=λ_ _ _ _=>rfl;unfold jl at*;go_enter_defers func99,ntmps99;go_wp2_with fail;refine (Y h).j.m ?_;rintro e w1 ⟨rfl,m,hb⟩;have⟨s1,s2⟩:=Tk (b:=false) (c:=0) (t:=0) hb false 0 0;have o:w1.cell? (E w.heap.size 0)=some (.bool false):=by rw[cell_of_row _ _ 0 _ _ (0,0) hb];rfl
 have h1:w1.cell? (E w.heap.size 1)=some (O 0):=by rw[cell_of_row _ _ 1 _ _ (0,0) hb];rfl
 have p:w1.cell? (E w.heap.size 2)=some (J 0):=by rw[cell_of_row _ _ 2 _ _ (0,0) hb];rfl
 have f0:w1.frozen? (E w.heap.size 0)=false:=by simp[World.frozen?,hb]
 have f1:w1.frozen? (E w.heap.size 1)=false:=by simp[World.frozen?,hb]
 have f2:w1.frozen? (E w.heap.size 2)=false:=by simp[World.frozen?,hb]
 have q:=aB hb;have a:=Y s1;go_wp2_with fail;refine leaves_cons (f:=143) (args:=#[M w.heap.size]) (by simp) (by simp[go_sem]) ?_;refine(adP (E w.heap.size 0) _).mono ?_;rintro e r s ⟨rfl,rfl,rfl⟩;have d:(((w1.setCell (E w.heap.size 0) (.bool false)).setCell (E w.heap.size 1) (O 0)).setCell (E w.heap.size 2) (J 0)).cell? (E w.heap.size 0)=some (.bool false):=Zl a.j;have g:(((w1.setCell (E w.heap.size 0) (.bool false)).setCell (E w.heap.size 1) (O 0)).setCell (E w.heap.size 2) (J 0)).cell? (E w.heap.size 1)=some (O 0):=Zl a.j;have i:(((w1.setCell (E w.heap.size 0) (.bool false)).setCell (E w.heap.size 1) (O 0)).setCell (E w.heap.size 2) (J 0)).cell? (E w.heap.size 2)=some (J 0):=Zl a.j;have j:Hid (∃w2,Q w2/\H (λk=>k=w.heap.size) w2 (((w1.setCell (E w.heap.size 0) (.bool false)).setCell (E w.heap.size 1) (O 0)).setCell (E w.heap.size 2) (J 0))):=⟨w1,(Y m).j,(Y s2).j⟩;have⟨wf,l⟩:=Ze ((((w1.setCell (E w.heap.size 0) (.bool false)).setCell (E w.heap.size 1) (O 0)).setCell (E w.heap.size 2) (J 0)));rw[<-l] at d g i j|-;clear l;simp[Leaves,settle,results,results99,go_sem,d,g,i];exact j.j
theorem adQ(sv c t w)(Q:World->Prop)(h:Zk 100 #[sv] (w.alloc (.cells (jl false 0 0) 58)) λe w'=>e=.panicked (Bb c t)/\Q w'/\w'.heap[w.heap.size]?=some (.cells (jl false 0 0) 58 (0,0))):
  Zk 99 #[.func (.func 100) #[sv] #[]] w λe w'=>Zr e (.agg (jl true c t))/\∃w1,Q w1/\H (λk=>k=w.heap.size) w1 w':=by
 have o:∀(fn:Fn) (first cap:Array Value) (w:Z0),(Instr.makeFunc fn first cap).run prog w=.ok (.func fn first cap) w:=λ_ _ _ _=>rfl;have b:=Y h;unfold jl at*;go_enter_defers func99,ntmps99;go_wp2_with fail;refine b.j.m ?_;rintro e w1 ⟨rfl,d,hb⟩;have g:=Y d;have i:=Y hb;clear d hb b;try go_wp2_with fail
 refine leaves_cons (f:=143) (args:=#[M w.heap.size]) (by simp) (by simp[go_sem]) ?_;refine(adN w.heap.size c t [] _ i.j).mono ?_;rintro e p w2 ⟨rfl,rfl,a,j⟩;have l:w2.cell? (E w.heap.size 0)=some (.bool true):=Zl a;have m:w2.cell? (E w.heap.size 1)=some (O c):=Zl a;have n:w2.cell? (E w.heap.size 2)=some (J (t:Int)):=Zl a;simp[Leaves,settle,results,results99,go_sem,l,m,n];exact⟨w1,g.j,j⟩
theorem ajN(v):m32 (((m32 v:Nat):Int)*4096)=m32 (v*4096):=by unfold m32;omega
theorem ajQ(a v):IntKind.u32.wrap (a+((m32 v:Nat):Int))=(m32 (a+v):Nat):=by rw[Dj,BA,BA,BA];omega
theorem PE(op a b:Nat)(h:op=19\/op=28\/op=41)(_ha:a<4294967296)(_hb:b<4294967296)(w):
  Zk 151 #[O (op:Int),J (a:Int),J (b:Int)] w λe w'=>Zr e (J (tK op a b:Nat))/\w'=w:=by
 rcases h with rfl|rfl|rfl
 ·exact af0 a b _ha _hb w
 ·exact aeZ a b _ha _hb w
 exact aeY a b _ha _hb w
theorem ag0{off:Nat}{f:Nat->UInt8}(h:cP U w bm n f)(jS:rY w)(fP:tO w)(nX:dX w)(F:lu w cb off T cs R pc)(hu:U cb)(nS:pc<4294967296)(hR:∀i,i<32->R i<4294967296)(root p)(hp:jL f n root pc 4 0=.ok p)(op rd r1 r2 im)(hi:TV (dec (bM f p:Nat)) op rd r1 r2 im)(iJ:op=1\/op=3\/op=19\/op=28\/op=39\/op=40\/op=41):
  Zk 100 #[.agg #[M bm,O root,.pointer (some (E cb off))]] w λe w'=>pU U w bm n cb off T cs (gK f n root R pc op rd (aO R r1) (aO R r2) im) e w':=by
 have N:Hid (∀wv,Zq w wv->Zk 144 #[.agg #[M bm,O root,.pointer (some (E cb off))]] wv λe w'=>Zr e (.agg #[O (op:Int),O (rd:Int),O (r1:Int),O (r2:Int),O im])/\Hid (Zq wv w')):=λwv hv=>by
  refine(anw (h.only hv (λ_ h _=>h.elim)) (jS.only hv id) (fP.only hv id) (nX.only hv id) (F.only hv id).ctx nS root p hp).m ?_;rintro e w' ⟨⟨h0,_⟩|⟨_,rfl⟩,ho⟩
  ·rw[hi.e] at h0;have:=hi.lo;have h1:(op:Int)=0:=h0;omega
  rw[hi.e];exact⟨rfl,ho⟩
 have GS:Hid (∀wv,Zq w wv->∀r:Nat,r<32->Zk 145 #[.agg #[M bm,O root,.pointer (some (E cb off))],O (r:Int)] wv λe w'=>Zr e (J (aO R r:Nat))/\Hid (Zq wv w')):=λwv hv r hr=>agD (F.only hv id).ctx _ root r hr
 have t:Hid (aO R r1<4294967296/\aO R r2<4294967296):=by
  constructor
  ·unfold aO;split
   ·decide
   exact hR r1 hi.dM
  unfold aO;split
  ·decide
  exact hR r2 hi.fN
 have Uc:=Y (⟨hi.dM,hi.fN⟩:r1<32/\r2<32);have s:=Y (⟨hi.lo,hi.hi,hi.dn,hi.i0,hi.i1,hi.no⟩:1<=op/\op<=48/\rd<32/\ -1048576<=im/\im<=1048576/\(((5<=op/\op<=10)\/(16<=op/\op<=18))->rd=0));have P:=Y (⟨h,jS,fP,F,hu⟩:_/\_/\_/\_/\_);have u:=Y (⟨nS,aho hp⟩:pc<4294967296/\pc % 4=0);have ah:IntKind.u32.wrap im=(m32 im:Nat):=Dj im;have Ao:IntKind.u32.wrap ((pc:Int)+4)=(m32 ((pc:Int)+4):Nat):=Dj _;have Q:=F.ctx.p;have dA:cb<w.heap.size:=aB F.b;have ae:=Y iJ;clear h jS fP nX F hu nS hR hp hi iJ;go_enter func100,ntmps100;go_wp2_with fail;have b8:Hid (Zq w (w.alloc (.cells #[M bm,O root,.pointer (some (E cb off))] 238))):=(H.refl _ w).alloc _;refine(N.j _ b8.j).m ?_;rintro e w2 ⟨rfl,S⟩
 have V:w2.heap[w.heap.size]?=some (.cells #[M bm,O root,.pointer (some (E cb off))] 238 (0,0)):=by
  rw[S.j.block _ (by simp) id];exact heap_alloc_last w _
 have W:=Y (b8.j.trans S.j);have g0:w2.cell? (E w.heap.size 0)=some (M bm):=by rw[cell_of_row _ _ 0 _ _ (0,0) V];rfl
 have g1:w2.cell? (E w.heap.size 1)=some (O root):=by rw[cell_of_row _ _ 1 _ _ (0,0) V];rfl
 have g2:w2.cell? (E w.heap.size 2)=some (.pointer (some (E cb off))):=by rw[cell_of_row _ _ 2 _ _ (0,0) V];rfl
 have g3:w2.cell? (E cb (off+32))=some (J (pc:Int)):=by rw[W.j.cell (p:=E cb (off+32)) dA id];exact Q
 have C:w.heap.size<w2.heap.size:=aB V;have NB:cb<w2.heap.size:=Nat.lt_of_lt_of_le dA W.j.size;obtain⟨g,hg⟩:=Ze (w.heap.size);have X:Hid (w.heap.size<=g):=by show _<=_;omega
 rw[<-hg] at g0 g1 g2 C|-;clear V b8 S Q dA hg N;go_wp2_with fail;obtain⟨x,NL⟩:=Ze (w2.alloc (.cells #[O (op:Int),O (rd:Int),O (r1:Int),O (r2:Int),O im] 287));have D:=Za NL;have B8:x.heap[w2.heap.size]?=some (.cells #[O (op:Int),O (rd:Int),O (r1:Int),O (r2:Int),O im] 287 (0,0)):=by rw[NL];exact heap_alloc_last w2 _
 rw[<-NL];have ju:Hid (w2.heap.size<x.heap.size):=aB B8;have Jt:g<x.heap.size:=Nat.lt_of_lt_of_le C D.size;have aa:cb<x.heap.size:=Nat.lt_of_lt_of_le NB D.size;obtain⟨gi,Ju⟩:=Ze (w2.heap.size);have G6:Hid (w.heap.size<=gi):=by show _<=_;rw[Ju];exact W.j.size
 rw[<-Ju] at B8 ju|-
 have HS:Hid (∀wv,H (λk=>k≠g/\k≠gi/\k≠cb) x wv->wv.cell? (E g 0)=some (M bm)/\wv.cell? (E g 1)=some (O root)/\wv.cell? (E g 2)=some (.pointer (some (E cb off)))/\wv.cell? (E gi 0)=some (O (op:Int))/\wv.cell? (E gi 1)=some (O (rd:Int))/\wv.cell? (E gi 2)=some (O (r1:Int))/\wv.cell? (E gi 3)=some (O (r2:Int))/\wv.cell? (E gi 4)=some (O im)):=λwv hv=>by
  have i0:∀j,wv.cell? (E gi j)=(#[O (op:Int),O (rd:Int),O (r1:Int),O (r2:Int),O im]:Array Value)[j]?:=λj=>by
   rw[hv.cell (p:=E gi j) ju.j (λh=>h.2.1 rfl),cell_of_row _ _ j _ _ (0,0) B8]
  refine⟨?_,?_,?_,by rw[i0];rfl,by rw[i0];rfl,by rw[i0];rfl,by rw[i0];rfl,by rw[i0];rfl⟩
  ·rw[hv.cell (p:=E g 0) Jt (λh=>h.1 rfl),D.cell (p:=E g 0) C id];exact g0
  ·rw[hv.cell (p:=E g 1) Jt (λh=>h.1 rfl),D.cell (p:=E g 1) C id];exact g1
  rw[hv.cell (p:=E g 2) Jt (λh=>h.1 rfl),D.cell (p:=E g 2) C id];exact g2
 have G:=Y (W.j.trans D);have AZ:Hid (∀wv,Zq x wv->H (λk=>k≠g/\k≠gi/\k≠cb) x wv):=λwv hv=>hv.f
 have HK:Hid (Zq x x.drew):=(H.refl _ x).drew
 have u3:Hid (∀wv,Zq x wv->∀z:Int,(z=(r1:Int)\/z=(r2:Int))->Zk 145 #[.agg #[M bm,O root,.pointer (some (E cb off))],O z] wv λe w'=>Zr e (J (aO R z.toNat:Nat))/\Hid (Zq x w')):=λwv hv z hz=>by
  have jy:∃r:Nat,z=(r:Int)/\r<32:=by
   rcases hz with rfl|rfl
   ·exact⟨r1,rfl,Uc.j.1⟩
   exact⟨r2,rfl,Uc.j.2⟩
  obtain⟨r,rfl,hr⟩:=jy;rw[Int.toNat_natCast];refine(GS.j wv (G.j.trans hv) r hr).m ?_;rintro e w' ⟨rfl,K⟩;exact⟨rfl,hv.trans K.j⟩
 have ag:Hid (g≠gi):=by have:=C;show g≠gi;omega
 have lV:Hid (g<x.heap.size/\gi<x.heap.size/\cb<x.heap.size):=⟨Jt,ju.j,aa⟩
 clear g0 g1 g2 g3 C NB W NL D B8 Jt aa Ju GS;go_region_held3 (λwv=>Hid (Zq x wv)/\Zc wv g 0 (M bm)/\Zc wv g 1 (O root)/\Zc wv g 2 (.pointer (some (E cb off)))/\Zc wv gi 0 (O (op:Int))/\Zc wv gi 1 (O (rd:Int))/\Zc wv gi 2 (O (r1:Int))/\Zc wv gi 3 (O (r2:Int))/\Zc wv gi 4 (O im)) (first|exact⟨HK.j,HS.j _ (AZ.j _ HK.j)⟩|exact⟨A,HS.j _ (AZ.j _ A.j)⟩|exact⟨K,HS.j _ (AZ.j _ K.j)⟩) (first|(go_at_call 145;refine(u3.j _ K.j _ ?_).m ?_;(first|exact Or.inl rfl|exact Or.inr rfl);rintro e w6 ⟨rfl,A⟩)|(go_at_call 145;refine(u3.j _ HK.j _ ?_).m ?_;(first|exact Or.inl rfl|exact Or.inr rfl);rintro e w5 ⟨rfl,K⟩));have iJ:=ae.j;have m:=Y (P.j.1.only (G.j.trans A.j) (λ_ h _=>h.elim));have c:=Y (P.j.2.2.2.1.only (G.j.trans A.j) id);have o:=Y P.j.2.2.2.2;have q:Hid (Zn U w w6):=(G.j.trans A.j).f;have al:w6.cell? (E cb (off+rd))=some (J (R rd:Nat)):=c.j.ctx.r rd s.j.2.2.1;have Q:Zc w6 cb (off+32) (J (pc:Int)):=c.j.ctx.p;have tq:=c.j.fz (off+rd);have an:=c.j.fz (off+32)
 have xE:∀v,(w6.setCell (E cb (off+rd)) v).cell? (E cb (off+32))=some (J (pc:Int)):=λv=>by
  rw[World.cell?_setCell_other _ _ _ _ (by intro e;injection e with _ e2;have:=s.j.2.2.1;omega)];exact Q
 have gW:∀v,(w6.setCell (E cb (off+rd)) v).cell? (E g 2)=some (.pointer (some (E cb off))):=λv=>by
  rw[World.cell?_setCell_other _ _ _ _ (by intro e;injection e with e2;have:=X.j;have:=aB P.j.2.2.2.1.b;omega)];exact(HS.j _ (AZ.j _ A.j)).2.2.1
 have ao:cb<w6.heap.size:=World.block_lt_of_cell? w6 _ Q;have gF:0<=(rd:Int)/\(rd:Int)<32:=by have:=s.j.2.2.1;omega
 have y:=Y (G.j.trans A.j);clear HS AZ HK u3 K A P Uc G ag lV G6 X ju;rcases iJ with rfl|rfl|rfl|rfl|rfl|rfl|rfl
 ·
  have l:Hid (gK f n root R pc 1 rd (aO R r1) (aO R r2) im=.ok (f,jv R rd (m32 (im*4096)),m32 ((pc:Int)+4))):=by
   show _=_;exact anx u.j.2
  have ab:Hid (∀wv,Zk 146 #[J (m32 im:Nat)] wv λe w'=>Zr e (J (m32 (im*4096):Nat))/\w'=wv):=λwv=>by
   have h:=adz (m32 im:Nat) wv;rw[ajN] at h;exact h
  clear y;by_cases dn:rd=0
  ·subst dn;have d:Hid (pU U w bm n cb off T cs (gK f n root R pc 1 0 (aO R r1) (aO R r2) im) (.returned (.tuple #[])) (w6.setCell (E cb (off+32)) (J (m32 ((pc:Int)+4):Nat)))):=Ig o.j m.j c.j q.j _ _ (by rw[l.j,Ib]);clear l m c o q s t u;go_wp2_with fail;refine(ab.j _).e1 ?_;go_wp2_with fail
   all_goals
    first|go_end0|refine bodyPost_ret (results_none rfl _ _ _) rfl ?_
    exact d.j
  have cX:((rd:Int) !=0)=true:=by simp;omega
  have M0:¬(rd:Int)=0:=Z;have d:Hid (pU U w bm n cb off T cs (gK f n root R pc 1 rd (aO R r1) (aO R r2) im) (.returned (.tuple #[])) ((w6.setCell (E cb (off+rd)) (J (m32 (im*4096):Nat))).setCell (E cb (off+32)) (J (m32 ((pc:Int)+4):Nat)))):=Ie o.j m.j c.j q.j rd _ _ s.j.2.2.1 dn _ l.j;clear l m c o q s t u dn;go_wp2_with fail;refine(ab.j _).e1 ?_;go_wp2_with fail
  all_goals
   first|go_end0|refine bodyPost_ret (results_none rfl _ _ _) rfl ?_
   exact d.j
 ·
  have EZ:Hid (gK f n root R pc 3 rd (aO R r1) (aO R r2) im=Bm f R rd (m32 ((pc:Int)+4)) (m32 ((pc:Int)+im))):=by
   show _=_;exact anz
  have iU:IntKind.u32.wrap ((pc:Int)+((m32 im:Nat):Int))=(m32 ((pc:Int)+im):Nat):=ajQ _ _;obtain⟨dst,ad⟩:=Ze (m32 ((pc:Int)+im));rw[<-ad] at EZ iU;clear ad;by_cases h4:dst % 4=0
  ·have Ox:=Y (λwv=>aey dst h4 wv)
   have l:Hid (gK f n root R pc 3 rd (aO R r1) (aO R r2) im=.ok (f,jv R rd (m32 ((pc:Int)+4)),dst)):=by
    show _=_;rw[EZ.j];exact if_neg Z
   clear EZ h4 y;by_cases dn:rd=0
   ·subst dn;have d:Hid (pU U w bm n cb off T cs (gK f n root R pc 3 0 (aO R r1) (aO R r2) im) (.returned (.tuple #[])) (w6.setCell (E cb (off+32)) (J (dst:Nat)))):=Ig o.j m.j c.j q.j _ _ (by rw[l.j,Ib]);clear l m c o q s t u;go_wp2_with fail;refine(Ox.j _).e1 ?_;go_wp2_with fail
    all_goals
     first|go_end0|refine bodyPost_ret (results_none rfl _ _ _) rfl ?_
     exact d.j
   have cX:((rd:Int) !=0)=true:=by simp;omega
   have M0:¬(rd:Int)=0:=Z;have d:Hid (pU U w bm n cb off T cs (gK f n root R pc 3 rd (aO R r1) (aO R r2) im) (.returned (.tuple #[])) ((w6.setCell (E cb (off+rd)) (J (m32 ((pc:Int)+4):Nat))).setCell (E cb (off+32)) (J (dst:Nat)))):=Ie o.j m.j c.j q.j rd _ _ s.j.2.2.1 dn _ l.j;clear l m c o q s t u dn;go_wp2_with fail;refine(Ox.j _).e1 ?_;go_wp2_with fail
   all_goals
    first|go_end0|refine bodyPost_ret (results_none rfl _ _ _) rfl ?_
    exact d.j
  have Ox:=Y (λwv=>aeA dst h4 wv);have d:Hid (pU U w bm n cb off T cs (gK f n root R pc 3 rd (aO R r1) (aO R r2) im) (.panicked (Bb 0 dst)) w6):=Or.inl ⟨0,dst,by rw[EZ.j];exact if_pos h4,rfl,y.j⟩;clear EZ h4 y;clear m c o q s t u;go_wp2_with fail;refine(Ox.j _).mono ?_;rintro e w' ⟨rfl,h⟩;have S:=h.symm;clear h;subst S
  first|exact⟨rfl,d.j⟩|(go_wp2_with fail;all_goals exact⟨rfl,d.j⟩)
 ·
  have l:=Y (anA (op:=19) (f:=f) (n:=n) (root:=root) (R:=R) (rd:=rd) (a:=aO R r1) (b:=aO R r2) (im:=im) u.j.2 Z);have B:=Y (λwv=>PE 19 (aO R r1) (m32 im) Z t.j.1 (DJ im) wv);clear y;by_cases dn:rd=0
  ·subst dn;have d:Hid (pU U w bm n cb off T cs (gK f n root R pc 19 0 (aO R r1) (aO R r2) im) (.returned (.tuple #[])) (w6.setCell (E cb (off+32)) (J (m32 ((pc:Int)+4):Nat)))):=Ig o.j m.j c.j q.j _ _ (by rw[l.j,Ib]);clear l m c o q s t u;go_wp2_with fail;refine(B.j _).e1 ?_;go_wp2_with fail
   all_goals
    first|go_end0|refine bodyPost_ret (results_none rfl _ _ _) rfl ?_
    exact d.j
  have cX:((rd:Int) !=0)=true:=by simp;omega
  have M0:¬(rd:Int)=0:=Z;have d:Hid (pU U w bm n cb off T cs (gK f n root R pc 19 rd (aO R r1) (aO R r2) im) (.returned (.tuple #[])) ((w6.setCell (E cb (off+rd)) (J (tK 19 (aO R r1) (m32 im):Nat))).setCell (E cb (off+32)) (J (m32 ((pc:Int)+4):Nat)))):=Ie o.j m.j c.j q.j rd _ _ s.j.2.2.1 dn _ l.j;clear l m c o q s t u dn;go_wp2_with fail;refine(B.j _).e1 ?_;go_wp2_with fail
  all_goals
   first|go_end0|refine bodyPost_ret (results_none rfl _ _ _) rfl ?_
   exact d.j
 ·
  have l:=Y (aaY (op:=28) (f:=f) (n:=n) (root:=root) (R:=R) (rd:=rd) (a:=aO R r1) (b:=aO R r2) (im:=im) u.j.2 Z);have B:=Y (λwv=>PE 28 (aO R r1) (aO R r2) Z t.j.1 t.j.2 wv);clear y;by_cases dn:rd=0
  ·subst dn;have d:Hid (pU U w bm n cb off T cs (gK f n root R pc 28 0 (aO R r1) (aO R r2) im) (.returned (.tuple #[])) (w6.setCell (E cb (off+32)) (J (m32 ((pc:Int)+4):Nat)))):=Ig o.j m.j c.j q.j _ _ (by rw[l.j,Ib]);clear l m c o q s t u;go_wp2_with fail;refine(B.j _).e1 ?_;go_wp2_with fail
   all_goals
    first|go_end0|refine bodyPost_ret (results_none rfl _ _ _) rfl ?_
    exact d.j
  have cX:((rd:Int) !=0)=true:=by simp;omega
  have M0:¬(rd:Int)=0:=Z;have d:Hid (pU U w bm n cb off T cs (gK f n root R pc 28 rd (aO R r1) (aO R r2) im) (.returned (.tuple #[])) ((w6.setCell (E cb (off+rd)) (J (tK 28 (aO R r1) (aO R r2):Nat))).setCell (E cb (off+32)) (J (m32 ((pc:Int)+4):Nat)))):=Ie o.j m.j c.j q.j rd _ _ s.j.2.2.1 dn _ l.j;clear l m c o q s t u dn;go_wp2_with fail;refine(B.j _).e1 ?_;go_wp2_with fail
  all_goals
   first|go_end0|refine bodyPost_ret (results_none rfl _ _ _) rfl ?_
   exact d.j
 ·
  have d:Hid (pU U w bm n cb off T cs (gK f n root R pc 39 rd (aO R r1) (aO R r2) im) (.panicked (Bb 8 0)) w6):=Or.inl ⟨8,0,by rfl,rfl,y.j⟩;clear y;clear m c o q s t u;go_wp2_with fail
  all_goals
   exact⟨rfl,d.j⟩
 ·
  have d:Hid (pU U w bm n cb off T cs (gK f n root R pc 40 rd (aO R r1) (aO R r2) im) (.panicked (Bb 3 pc)) w6):=Or.inl ⟨3,pc,by rfl,rfl,y.j⟩;clear y;clear m c o q s t u;go_wp2_with fail
  all_goals
   exact⟨rfl,d.j⟩
 ·
  have l:=Y (aaY (op:=41) (f:=f) (n:=n) (root:=root) (R:=R) (rd:=rd) (a:=aO R r1) (b:=aO R r2) (im:=im) u.j.2 Z);have B:=Y (λwv=>PE 41 (aO R r1) (aO R r2) Z t.j.1 t.j.2 wv);clear y;by_cases dn:rd=0
  ·subst dn;have d:Hid (pU U w bm n cb off T cs (gK f n root R pc 41 0 (aO R r1) (aO R r2) im) (.returned (.tuple #[])) (w6.setCell (E cb (off+32)) (J (m32 ((pc:Int)+4):Nat)))):=Ig o.j m.j c.j q.j _ _ (by rw[l.j,Ib]);clear l m c o q s t u;go_wp2_with fail;refine(B.j _).e1 ?_;go_wp2_with fail
   all_goals
    first|go_end0|refine bodyPost_ret (results_none rfl _ _ _) rfl ?_
    exact d.j
  have cX:((rd:Int) !=0)=true:=by simp;omega
  have M0:¬(rd:Int)=0:=Z;have d:Hid (pU U w bm n cb off T cs (gK f n root R pc 41 rd (aO R r1) (aO R r2) im) (.returned (.tuple #[])) ((w6.setCell (E cb (off+rd)) (J (tK 41 (aO R r1) (aO R r2):Nat))).setCell (E cb (off+32)) (J (m32 ((pc:Int)+4):Nat)))):=Ie o.j m.j c.j q.j rd _ _ s.j.2.2.1 dn _ l.j;clear l m c o q s t u dn;go_wp2_with fail;refine(B.j _).e1 ?_;go_wp2_with fail
  all_goals
   first|go_end0|refine bodyPost_ret (results_none rfl _ _ _) rfl ?_
   exact d.j
def abH(U:Z1)(w:Z0)(bm n cb off:Nat)(T:TypeId)(cs:Array Value)(r:zo)(e:Ending)(w':Z0):Prop:=
 (∃c t,r=.error (c,t)/\Zr e (.agg (jl true c t))/\Zq w w')\/
 ∃f' R' lB,r=.ok (f',R',lB)/\Zr e (.agg (jl false 0 0))/\cP U w' bm n f'/\(∃ml,lu w' cb off T ml R' lB/\zD cs ml off)/\H (λk=>¬U k\/k=cb) w w'
theorem cP.less{f:Nat->UInt8}(h:cP V w bm n f)(c:∀k,U k->V k):cP U w bm n f:=by
 have⟨d,e,a⟩:=h;exact⟨d,e,a.pos,a.top,a.m,a.p,a.nil,a.pg,a.inj,λhu=>a.um (c _ hu),λhu=>a.up (c _ hu),λi b hi g hu=>a.ug i b hi g (c _ hu),λk hu=>a.low k (c k hu)⟩
def oX(o:Int):Prop:=o=1\/o=3\/o=19\/o=28\/o=39\/o=40\/o=41
theorem afZ{off:Nat}{f:Nat->UInt8}(h:cP U w bm n f)(c:rY w)(d:tO w)(g:dX w)(j:lu w cb off T cs R pc)(hu:U cb)(k:pc<4294967296)(l:∀i,i<32->R i<4294967296)(root p)(b:jL f n root pc 4 0=.ok p)(a:oX (dec (bM f p:Nat)).op):
  Zk 100 #[.agg #[M bm,O root,.pointer (some (E cb off))]] w λe w'=>pU U w bm n cb off T cs (jK f n root R pc) e w':=by
 have m:(dec (bM f p:Nat)).op≠0:=by unfold oX at a;omega
 have⟨op,rd,r1,r2,im,hi⟩:=ao2 (bM f p) (LN f p) m;have he:jK f n root R pc=gK f n root R pc op rd (aO R r1) (aO R r2) im:=by
  unfold jK;rw[b];exact ao4 hi
 rw[he];refine ag0 h c d g j hu k l root p b op rd r1 r2 im hi ?_;have o:(dec (bM f p:Nat)).op=(op:Int):=hi.e▸rfl;rw[o] at a;unfold oX at a;omega
theorem af7{off:Nat}{f:Nat->UInt8}(h:cP U w bm n f)(V:rY w)(W:tO w)(X:dX w)(P:lu w cb off T cs R pc)(hu:U cb)(nS:pc<4294967296)(hR:∀i,i<32->R i<4294967296)(root p)(oK:jL f n root pc 4 0=.ok p)(h7:oX (dec (bM f p:Nat)).op):
  Zk 57 #[M bm,O root,.pointer (some (E cb off))] w λe w'=>abH U w bm n cb off T cs (jK f n root R pc) e w':=by
 have⟨w1,u⟩:=Ze ((w.alloc (.cells (jl false 0 0) 58)).alloc (.cells #[M bm,O root,.pointer (some (E cb off))] 238));have dA:=aB P.b;have JG:Zq w w1:=by rw[u];exact((H.refl _ w).alloc _).alloc _
 have Q:w1.heap.size=w.heap.size+2:=by rw[u];simp
 have NH:w1.heap[w.heap.size]?=some (.cells (jl false 0 0) 58 (0,0)):=by
  rw[u,RowKit.Below.heap_alloc _ _ _ (by simp)];exact heap_alloc_last w _
 have⟨o,q⟩:=Ze (w1.alloc (.cells (jl false 0 0) 58));have d:=q▸JG.alloc _;have yP:o.heap.size=w.heap.size+3:=by rw[q];simp[Q]
 have z:=q▸heap_alloc_last w1 _;have A:o.heap[w.heap.size]?=some (.cells (jl false 0 0) 58 (0,0)):=by
  rwa[q,RowKit.Below.heap_alloc _ _ _ Z]
 have S:=afZ (h.more d) (V.only d id) (W.only d id) (X.only d id) (P.only d id) (Or.inl hu) nS hR root p oK h7;have HT:Hid (Zk 99 #[.func (.func 100) #[.agg #[M bm,O root,.pointer (some (E cb off))]] #[]] w1 λe w2=>∃b c t,Zr e (.agg (jl b c t))/\w2.heap[w.heap.size]?=some (.cells (jl false 0 0) 58 (0,0))/\∀w3,H (λk=>k=w.heap.size) w2 w3->abH U w bm n cb off T cs (jK f n root R pc) (.returned (.agg (jl b c t))) w3):=by
  cases x:jK f n root R pc with
  |error ct=>
   have⟨c,t⟩:=ct;refine(adQ _ c t w1 (λwv=>Zq o wv) ?_).m ?_
   ·rw[<-q];refine S.m ?_;rintro e w' (⟨c',t',h1,rfl,a⟩|⟨f',R',lB,h1,_⟩)
    ·rw[x] at h1;injection h1 with h1
     injection h1 with h1 s
     subst h1 s;exact⟨rfl,a,(a.block _ (aB z) id)▸z⟩
    rw[x] at h1;cases h1
   rintro e w2 ⟨rfl,wv,hv,a⟩;have g:w2.heap[w.heap.size]?=some (.cells (jl false 0 0) 58 (0,0)):=by
    rwa[a.block _ (Nat.lt_of_lt_of_le (aB A) hv.size) Z,hv.block _ (aB A) id]
   refine⟨true,c,t,rfl,g,λw3 j=>Or.inl ⟨c,t,rfl,rfl,?_⟩⟩;exact⟨j.os.trans (a.os.trans ((d.trans hv).os)),j.tape.trans (a.tape.trans ((d.trans hv).tape)),j.output.trans (a.output.trans ((d.trans hv).output)),Nat.le_trans (d.trans hv).size (Nat.le_trans a.size j.size),λk hk _=>by
    rw[j.block k (Nat.lt_of_lt_of_le hk (Nat.le_trans (d.trans hv).size a.size)) Z,a.block k (Nat.lt_of_lt_of_le hk (d.trans hv).size) Z,(d.trans hv).block k hk id]⟩
  |ok r=>
   have⟨f',R',lB⟩:=r;refine(adO _ w1 (λwv=>cP (λk=>U k\/(w.heap.size<=k/\k<o.heap.size)) wv bm n f'/\(∃y,lu wv cb off T y R' lB/\zD cs y off)/\H (λk=>¬(U k\/(w.heap.size<=k/\k<o.heap.size))\/k=cb) o wv) ?_).m ?_
   ·rw[<-q];refine S.m ?_;rintro e w' (⟨c',t',h1,_⟩|⟨f2,R2,WS,h1,rfl,s,j,l⟩)
    ·rw[x] at h1;cases h1
    rw[x] at h1;injection h1 with h1
    injection h1 with h1 B
    injection B with B h6
    subst h1 B h6;refine⟨rfl,⟨s,j,l⟩,?_⟩;rwa[l.block _ (aB z) (by rintro(hn|hn);exact hn (Or.inr ⟨Z,Z⟩);omega)]
   rintro e w2 ⟨rfl,wv,⟨s,⟨y,j,Az⟩,l⟩,a⟩;have aa:=l.size;have g:w2.heap[w.heap.size]?=some (.cells (jl false 0 0) 58 (0,0)):=by
    rwa[a.block _ Z Z,l.block _ (aB A) (by rintro(hn|hn);exact hn (Or.inr ⟨Z,Z⟩);omega)]
   refine⟨false,0,0,rfl,g,λw3 m=>Or.inr ⟨f',R',lB,rfl,rfl,?_,⟨y,?_,Az⟩,?_⟩⟩
   ·exact ((s.only a (λk hk _=>by rw[hk];exact Or.inr ⟨Z,Z⟩)).only m (λk hk _=>by rw[hk];exact Or.inr ⟨Z,Z⟩)).less (λk hk=>Or.inl hk)
   ·exact(j.only a Z).only m Z
   have C:w.heap.size<=wv.heap.size:=Z;exact⟨m.os.trans (a.os.trans (l.os.trans d.os)),m.tape.trans (a.tape.trans (l.tape.trans d.tape)),m.output.trans (a.output.trans (l.output.trans d.output)),Nat.le_trans C (Nat.le_trans a.size m.size),λk hk hn=>by
    rw[m.block k (Nat.lt_of_lt_of_le hk (Nat.le_trans C a.size)) Z,a.block k (Nat.lt_of_lt_of_le hk C) Z,l.block k Z (by rintro(D|D);exact hn (Or.inl (λF=>D (Or.inl F)));exact hn (Or.inr D)),d.block k hk id]⟩
 have uD:∀(fn:Fn) (first cap:Array Value) (w:Z0),(Instr.makeFunc fn first cap).run prog w=.ok (.func fn first cap) w:=λ_ _ _ _=>rfl;have ab:=Q.symm;subst u;go_enter func57,ntmps57;go_wp2_with fail;refine HT.j.m ?_;rintro e w2 ⟨b,c,t,rfl,g,Nv⟩;have⟨s1,s2⟩:=Tk (b:=false) (c:=0) (t:=0) g b c t;have aK:=Y s1;have h0:w2.cell? (E w.heap.size 0)=some (.bool false):=Zl g;have h1:w2.cell? (E w.heap.size 1)=some (O 0):=Zl g;have s:w2.cell? (E w.heap.size 2)=some (J 0):=Zl g;have f0:w2.frozen? (E w.heap.size 0)=false:=by simp[World.frozen?,g]
 have f1:w2.frozen? (E w.heap.size 1)=false:=by simp[World.frozen?,g]
 have f2:w2.frozen? (E w.heap.size 2)=false:=by simp[World.frozen?,g]
 have hl:=aB g;have G:(((w2.setCell (E w.heap.size 0) (.bool b)).setCell (E w.heap.size 1) (O c)).setCell (E w.heap.size 2) (J (t:Int))).cell? (E w.heap.size 0)=some (.bool b):=Zl s1;have K:(((w2.setCell (E w.heap.size 0) (.bool b)).setCell (E w.heap.size 1) (O c)).setCell (E w.heap.size 2) (J (t:Int))).cell? (E w.heap.size 1)=some (O c):=Zl s1;have N:(((w2.setCell (E w.heap.size 0) (.bool b)).setCell (E w.heap.size 1) (O c)).setCell (E w.heap.size 2) (J (t:Int))).cell? (E w.heap.size 2)=some (J (t:Int)):=Zl s1;unfold jl at*;go_wp2_with fail;have⟨G,K,N⟩:=(Y (⟨G,K,N⟩:_/\_/\_)).j;refine bodyPost_ret (v:=.agg #[.bool b,O c,J (t:Int)]) ?_ rfl (Y (Nv _ s2)).j;simp[results,results57,go_sem,G,K,N]
end Go.Proofs.YtdjlkahbpdoemaaGreatDoor
namespace Go.Vx
theorem aN.aie(h:aN Ps U w)(i j)(t:i≠j){P Q:ff}(hi:Ps[i]?=some P)(u:Ps[j]?=some Q):
  ∃A B:Z1,P A w/\Q B w/\(∀k,k<w.heap.size->¬B k->A k)/\(∀k,k<w.heap.size->¬A k->B k)/\(∀k,U k->A k)/\∀(m n:ff) (w2:Z0),jX m->jX n->m A w2->n (Nu B w.heap.size w2.heap.size) w2->H (λk=>¬A k\/¬B k) w w2->aN ((Ps.set i m).set j n) U w2/\Zn U w w2:=by
 have⟨hu,C,hp,f,e⟩:=h;refine⟨_,_,(hp i P hi).2,(hp j Q u).2,λk hk hb=>⟨hk,λh1=>hb ⟨hk,λg=>t (f i j k h1 g)⟩⟩,λk hk hb=>⟨hk,λh1=>hb ⟨hk,λg=>t (f i j k g h1)⟩⟩,λk hk=>⟨hu k hk,λh1=>(e i k h1).2 hk⟩,λm n w2 v l g b o=>⟨?_,o.mono (λk hk h1 z=>?_)⟩⟩
 ·have hs:=o.size;refine⟨λk hk=>by have:=hu k hk;omega,λx k=>C x k\/(x=i/\w.heap.size<=k/\k<w2.heap.size),λx R a=>?_,λx y k b d=>?_,λx k hk=>?_⟩
  ·by_cases p:x=j
   ·subst p;rw[List.getElem?_set_self (by rw[List.length_set];exact ((List.getElem?_eq_some_iff.1 u).1))] at a;injection a with a
    subst a;refine⟨l,l _ _ (λ_=>False) w2 w2 b (H.refl _ _) (λ_ _ h=>h.elim) (λk hk=>Or.inl ?_)⟩;by_cases q:k<w.heap.size
    ·exact Or.inl ⟨q,λd=>hk.2 (Or.inl d)⟩
    exact Or.inr ⟨Z,hk.1⟩
   rw[List.getElem?_set_ne (λh=>p h.symm)] at a;by_cases r:x=i
   ·subst r;rw[List.getElem?_set_self ((List.getElem?_eq_some_iff.1 hi).1)] at a;injection a with a
    subst a;refine⟨v,v _ _ (λ_=>False) w2 w2 g (H.refl _ _) (λ_ _ h=>h.elim) (λk hk=>Or.inl ?_)⟩;have d:¬(w.heap.size<=k/\k<w2.heap.size):=λc=>hk.2 (Or.inr ⟨rfl,c⟩);exact⟨by have:=hk.1;omega,λc=>hk.2 (Or.inl c)⟩
   rw[List.getElem?_set_ne (λh=>r h.symm)] at a;refine⟨(hp x R a).1,(hp x R a).1 _ _ _ w w2 (hp x R a).2 o (λk hk h1=>⟨hk,λc=>?_⟩) (λk hk=>?_)⟩
   ·rcases h1 with h1|h1
    ·exact h1 ⟨hk,λs=>r (f x i k c s)⟩
    exact h1 ⟨hk,λs=>p (f x j k c s)⟩
   by_cases h1:k<w.heap.size
   ·exact Or.inl ⟨h1,λc=>hk.2 (Or.inl c)⟩
   exact Or.inr ⟨Z,hk.1⟩
  ·rcases b with b|b<;>rcases d with d|d
   ·exact f x y k b d
   ·have:=(e x k b).1;omega
   ·have:=(e y k d).1;omega
   rw[b.1,d.1]
  rcases hk with hk|hk
  ·have:=e x k hk;exact⟨Z,this.2⟩
  exact⟨hk.2.2,λc=>by have:=hu k c;omega⟩
 rcases h1 with h1|h1
 ·exact h1 ⟨hk,λb=>(e i k b).2 z⟩
 exact h1 ⟨hk,λb=>(e j k b).2 z⟩
end Go.Vx
namespace Go.Proofs.YtdjlkahbpdoemaaGreatDoor
variable {K K0 KE KP:Kn}{y:Kt}{P:Pm}
section
variable {T:List Kt}{L:List Ln}{cc:Nat}
theorem mm.ah6(h:mm kb mb sb pb qb bb tb D ks G T L ci co cc U w)(hi:i<T.length)(hy:y.num=T[i].num)(f:H S w w2)(l:∀k,k<w.heap.size->S k->k=G T[i].num\/U k)(hb:w2.heap[G T[i].num]?=some (.cells (cG G y).toArray 109 (0,0)))(q:∀k,V k->U k\/(w.heap.size<=k/\k<w2.heap.size)):mm kb mb sb pb qb bb tb D ks G (T.set i y) L ci co cc V w2:=by
 have r:=h.th _ (List.getElem_mem hi);have hs:=f.size;have m:∀b,b<w.heap.size->¬U b->¬V b:=λb h1 c v=>by
  rcases q b v with d|d
  ·exact c d
  omega
 have hk:=aB h.k;have hm:=h.m.own.lt;have x:=Dt hi hy;have n:∀t∈T.set i y,∃t2∈T,t2.num=t.num:=λt ht=>by
  rcases List.mem_or_eq_of_mem_set ht with h1|h1
  ·exact⟨t,h1,rfl⟩
  exact⟨T[i],List.getElem_mem hi,by rw[h1,hy]⟩
 refine⟨H.keep f h.k (λs=>?_),h.m.keep f (λs=>?_),x▸h.kt,λt ht=>?_,λt ht s hs e=>?_,m _ hk h.uk,m _ hm h.um,λt ht=>?_,λk hk=>?_,by rw[List.length_set];exact h.nt⟩
 ·rcases l _ hk s with e|e
  ·exact ef h.k r I e
  exact h.uk e
 ·rcases l _ hm s with e|e
  ·exact h.m.ne r e.symm
  exact h.um e
 ·by_cases a:t=y
  ·rwa[a,hy]
  have h1:=(List.mem_or_eq_of_mem_set ht).resolve_right a;by_cases c:t.num=T[i].num
  ·exfalso;have⟨j,u,g⟩:=List.getElem_of_mem ht;rw[List.length_set] at u;have z:=h.kt.nodup_iff.1 h.m.nd;by_cases o:i=j
   ·subst o;rw[List.getElem_set_self] at g;exact a g.symm
   rw[List.getElem_set_ne o] at g;have:=(List.getElem_inj (i:=i) (j:=j) (h₀:=by rw[List.length_map];exact hi) (h₁:=by rw[List.length_map];exact u) z).1 (by rw[List.getElem_map,List.getElem_map,g,c]);exact o this
  refine H.keep f (h.th t h1) (λs=>?_);rcases l _ (aB (h.th t h1)) s with e|e
  ·exact c (h.gi t h1 _ (List.getElem_mem hi) e)
  exact h.ut t h1 e
 ·have⟨t2,a,p⟩:=n t ht;have⟨s2,c,A⟩:=n s hs;rw[<-p,<-A] at e|-;exact h.gi t2 a s2 c e
 ·have⟨t2,a,p⟩:=n t ht;rw[<-p];exact m _ (aB (h.th t2 a)) (h.ut t2 a)
 rcases q k hk with d|d
 ·have:=h.low k d;omega
 exact d.2
end
theorem aen{g:Nat}{t:Kt}(h:w.heap[g]?=some (.cells (cG G t).toArray 109 (0,0)))(hr:t.rg=iH R)(hp:t.pc=(pc:Int)):lu w g 2 109 (cG G t).toArray R pc:=by
 refine⟨h,λj a=>?_,?_⟩
 ·rw[LY G t a,hr];rfl
 rw[(zI G t).1,hp]
theorem ao6{g:Nat}{t:Kt}(h:lu w g 2 109 cs R pc)(hb:zD (cG G t).toArray cs 2):w.heap[g]?=some (.cells (cG G {t with rg:=iH R,pc:=(pc:Int)}).toArray 109 (0,0)):=by
 rw[h.b];have:cs=(cG G {t with rg:=iH R,pc:=(pc:Int)}).toArray:=by
  apply Array.ext_getElem?;intro j;by_cases a:j<2\/35<=j
  ·rw[hb.2 j Z];simp only[List.getElem?_toArray];unfold cG;rcases a with a|a
   ·rw[List.getElem?_append_left (by simpa using a),List.getElem?_append_left (by simpa using a)]
   rw[List.getElem?_append_right (by simp;omega),List.getElem?_append_right (by have:=mH .u32 t.rg;simp only[List.length_cons,List.length_nil];omega),List.getElem?_append_right (by simp;omega),List.getElem?_append_right (by have:=mH .u32 (iH R);simp only[List.length_cons,List.length_nil];omega)];simp only[mH,List.length_cons,List.length_nil];have⟨q,c⟩:∃q,j - (0+1+1) - 32=q+1:=⟨j - 35,Z⟩;rw[c];rfl
  obtain⟨x,rfl⟩:∃x,j=2+x:=⟨j - 2,Z⟩;by_cases b:x<32
  ·rw[h.r x b,LY G _ b];rfl
  have b:x=32:=Z;subst b;rw[h.p];exact((zI G {t with rg:=iH R,pc:=(pc:Int)}).1).symm
 rw[this]
section
variable {c:Nat}{T:List Kt}{L:List Ln}
theorem aq.td(h:aq U w kb mb sb pb qb bb tb D ks G K)(hi:i<K.T.length)(q:rY w)(r:tO w)(s:dX w)(hr:K.T[i].rg=iH R)(hp:K.T[i].pc=(pc:Int))(u:pc<4294967296)(v:∀j,j<32->R j<4294967296)(root)(x:∃p,jL K.f K.n root pc 4 0=.ok p/\oX (dec (bM K.f p:Nat)).op):Zk 57 #[M mb,O root,.pointer (some ⟨G K.T[i].num,2,none⟩)] w λe w'=>(∃c t,jK K.f K.n root R pc=.error (c,t)/\Zr e (.agg (jl true c t))/\Zq w w')\/∃f' R' lB,jK K.f K.n root R pc=.ok (f',R',lB)/\Zr e (.agg (jl false 0 0))/\aq U w' kb mb sb pb qb bb tb D ks G {ba K i {K.T[i] with rg:=iH R',pc:=(lB:Int)} with f:=f'}/\Zn U w w':=by
 have⟨A,B,z,a,b,d,C,F⟩:=aN.aie h 1 5 I rfl rfl;have m:=a.th _ (List.getElem_mem hi);have n:=a.ut _ (List.getElem_mem hi);have⟨N,P,Q⟩:=x;refine(af7 z q r s (aen m hr hp) (b _ (aB m) n) u v root N P Q).m ?_;rintro e w' (⟨c,t,h1,g,l⟩|⟨f',R',lB,h1,g,l,⟨X,S,T⟩,o⟩)
 ·exact Or.inl ⟨c,t,h1,g,l⟩
 refine Or.inr ⟨f',R',lB,h1,g,?_⟩;have W:=a.ah6 hi (y:={K.T[i] with rg:=iH R',pc:=(lB:Int)}) rfl (V:=Nu B w.heap.size w'.heap.size) o (λk hk hs=>?_) (ao6 S T) (λk hk=>hk)
 ·exact F (ki mb K.n f') (mm kb mb sb pb qb bb tb D ks G (K.T.set i {K.T[i] with rg:=iH R',pc:=(lB:Int)}) K.L K.ci K.co K.c) w' (ki.dF _ _ _) mm.dF l W (o.mono (λk hk hs=>by
   rcases hs with hs|hs
   ·exact Or.inl hs
   subst hs;exact Or.inr n))
 rcases hs with hs|hs
 ·exact Or.inr (d k hk hs)
 exact Or.inl hs
end
structure oh(U:Z1)(w:Z0):Prop where
 us:rY w
 mi:tO w
 fo:dX w
 uu:U 6
 um:U 2
 uf:U 3
theorem oh.on(h:oh U w)(b:Zn U w w2):oh U w2:=⟨h.us.only b (λa=>a h.uu),h.mi.only b (λa=>a h.um),h.fo.only b (λa=>a h.uf),h.uu,h.um,h.uf⟩
def Hj:List Value:=[.bool false,O 0,J 0]
section
variable {c:Nat}
def lK(b:Bool)(c:Int)(t:Nat):List Value:=[.bool b,O c,J (t:Int)]
end
theorem alG:(prog.info? 58).map (·.size)=some 3:=Zx
section
variable {c:Nat}
theorem afb{K:Act->World->Prop}(x y)(d:o.op=.store 58 x y)(e:o.dst=none){b:Bool}{c:Int}(f:act.eval x=M ub)(hy:act.eval y=.agg (lK b c t).toArray)(a:w.heap[ub]?=some (.cells Hj.toArray 58 (0,0)))(h:K act (w.setCells ub 0 (lK b c t))):Oper.wp prog o act w K Q:=by
 have ht:w.there ub 0 (lK b c t).toArray.size:=λj g=>by
  refine⟨?_,fX a _⟩;rw[Nat.zero_add,cell_of_row _ _ j _ _ (0,0) a,List.getElem?_toArray,List.getElem?_eq_getElem (show j<Hj.length from g)];rfl
 refine wp_store_mid 58 x y d ub 0 _ f hy ht (by rw[alG];rfl) (all_oneCell_toArray (λv hv=>by
  simp only[lK,List.mem_cons,List.not_mem_nil,or_false] at hv;rcases hv with rfl|rfl|rfl<;>rfl)) ?_
 rwa[e]
theorem ai.stE(h:ai U w kb mb sb pb qb bb tb D ks G ((ub,.cells Hj.toArray 58 (0,0))::F) K wv)(b c t)(hN:¬U ub/\∀p∈F,p.1≠ub):ai U w kb mb sb pb qb bb tb D ks G ((ub,.cells (lK b c t).toArray 58 (0,0))::F) K (wv.setCells ub 0 (lK b c t)):=by
 have⟨h1,a⟩:=vB (lK b c t) [] Hj wv rfl (h.at List.mem_cons_self);exact h.rh a h1 hN.1 hN.2
end
theorem ai.swap{a b:Nat×Obj}(h:ai U w kb mb sb pb qb bb tb D ks G (a::b::F) K wv):ai U w kb mb sb pb qb bb tb D ks G (b::a::F) K wv:=by
 have⟨⟨V,h1,c,d⟩,e,f⟩:=h;have hm:∀p,p∈b::a::F->p∈a::b::F:=λp hp=>by
  simp only[List.mem_cons] at hp|-;rcases hp with h|h|h
  ·exact Or.inr (Or.inl h)
  ·exact Or.inl h
  exact Or.inr (Or.inr h)
 exact⟨⟨V,h1,λp hp=>c p (hm p hp),d⟩,λp hp=>e p (hm p hp),f⟩
section
variable {c:Nat}
theorem VB(h:aq U w kb mb sb pb qb bb tb D ks G K)(hi:i<K.T.length)(hn:af K.T[i].num)(hg:aI K.bs K.es (K.T[i].num,1)=(rc,0))(xy:rc.kind=4){b:Bool}(bV:∀V wv,Zn U w wv->(∀k,U k->V k)->aq V wv kb mb sb pb qb bb tb D ks G K->Zk 57 #[M mb,O rc.num,.pointer (some ⟨G K.T[i].num,2,none⟩)] wv λe w'=>Zr e (.agg (lK b cz tv).toArray)/\aq V w' kb mb sb pb qb bb tb D ks G KE/\Zn V wv w'):Zk 19 #[M kb,.pointer (some ⟨G K.T[i].num,0,none⟩)] w λe w'=>Zr e (.agg (lK b cz tv).toArray)/\aq U w' kb mb sb pb qb bb tb D ks G KE/\Zn U w w':=by
 have⟨m,Q⟩:=Ze (K);have⟨w1,ae⟩:=Ze (w.alloc (.cells #[.bool false,O 0,J 0] 58));have⟨rb,cX⟩:=Ze (w.heap.size);have⟨F,hF⟩:∃F:List (Nat×Obj),F=[(rb,.cells Hj.toArray 58 (0,0))]:=⟨_,rfl⟩;have AV:=Y (lI (ai.start h) cX);have H1:Hid (ai U w kb mb sb pb qb bb tb D ks G F m w1):=by rw[ae,hF,cX,Q];exact(ai.start h).alloc _
 have R:Hid (∀F wv,ai U w kb mb sb pb qb bb tb D ks G F m wv->Zk 56 #[.pointer (some ⟨G K.T[i].num,0,none⟩),O 1] wv λe w'=>Zr e (.agg #[O K.T[i].num,O 1])/\Hid (ai U w kb mb sb pb qb bb tb D ks G F m w')):=λF wv N=>by
  have Ed:=Q▸N;refine(PT (Ed.num hi) 1).m ?_;rintro e w' ⟨rfl,ho⟩;exact⟨rfl,N.quiet ho⟩
 have T:Hid (∀F wv,ai U w kb mb sb pb qb bb tb D ks G F m wv->Zk 55 #[M sb,.agg #[O K.T[i].num,O 1]] wv λe w'=>Zr e (.tuple #[bz rc,O 0])/\Hid (ai U w kb mb sb pb qb bb tb D ks G F m w')):=λF wv N=>(N.read (λV h=>by
  have h9:=h.Cq (s:=(K.T[i].num,1)) (c:=rc) (e:=0) (by rw[Q];exact hg) hn
  exact h9 wv (H.refl _ _)))
 have W:Hid (∀F wv,ai U w kb mb sb pb qb bb tb D ks G F m wv->Zk 57 #[M mb,O rc.num,.pointer (some ⟨G K.T[i].num,2,none⟩)] wv λe w'=>Zr e (.agg (lK b cz tv).toArray)/\Hid (ai U w kb mb sb pb qb bb tb D ks G F KE w')):=λF wv N=>by
  have Ed:ai U w kb mb sb pb qb bb tb D ks G F K wv:=Q▸N;obtain⟨⟨V,h1,h2,h3⟩,h4,h5⟩:=Ed;refine(bV V wv h5 h1 h3).m ?_;rintro e w' ⟨rfl,h6,h7⟩;exact⟨rfl,⟨V,h1,h2,h6⟩,λp hp=>H.keep h7 (h4 p hp) (λh=>h (h2 p hp)),h5.trans (h7.mono (λk _ h8 h9=>h8 (h1 k h9)))⟩
 obtain⟨nn,dN⟩:=Ze (K.T[i].num);obtain⟨a,gv⟩:=Ze (G K.T[i].num);rw[<-gv] at R W|-;rw[<-dN] at R T;have yc:=Y xy;clear h hi hn hg xy bV dN gv Q;go_enter func19,ntmps19;go_upto_region 1 with fail
 rw[<-ae,<-cX];clear ae cX;have eU:=H1;have P:=Y eU.j.drew;have f:Hid (∀F9 wv,ai U w kb mb sb pb qb bb tb D ks G F9 m wv->Zc wv kb 1 (M sb)):=λF9 wv h=>h.c.2.1
 have g:=Y (f.j _ _ P.j);go_cut [5,6] from 7 to 17 (λc7 c8 wx=>∃ub,c7=M ub/\c8=O 0/\Hid (ai U w kb mb sb pb qb bb tb D ks G ((ub,.cells (bj rc).toArray 84 (0,0))::F) m wx)/\Hid (¬U ub/\∀p∈F,p.1≠ub))
 case first=>
  refine lY (S:=(λwv=>wv.cell? (E kb 1)=some (M sb))) Zx ?_;simp only[List.size_toArray,List.length_cons,List.length_nil,Nat.zero_add,Nat.reduceAdd];refine Zt 0 g.j ?_;refine Zt 1 g.j ?_;refine Zt 2 g.j ?_;refine Zt 3 g.j ?_;refine Zt 4 g.j ?_;refine wpAnyH_ready (rs:=[5,10]) Zx (by simp) ?_;refine(AllReadyH.cons Zg (λK d=>?_) (AllReadyH.cons Zg (λK d=>?_) AllReadyH.nil))
  ·as_aux_lemma=>
    refine dc rfl 56 #[Operand.tmp 12,Operand.const (Value.int IntKind.i64 1)] #[106,3] rfl #[M a,O 1] (by first|rfl|simp[Act.eval,go_sem]) (by simp[go_sem]) (R.j _ _ P.j) ?_;rintro e A ⟨rfl,n⟩;have X:=Y (f.j _ _ n.j);refine⟨_,rfl,?_⟩;refine Zb d X.j ?_;refine wpAnyH_ready (rs:=[6,10]) Zx (by simp) ?_;refine(AllReadyH.cons Zg (λK d=>?_) (AllReadyH.cons Zg (λK d=>?_) AllReadyH.nil))
    ·as_aux_lemma=>
      refine dc rfl 55 #[Operand.tmp 11,Operand.tmp 13] #[92,45] rfl #[M sb,.agg #[O nn,O 1]] (by first|rfl|simp[Act.eval,go_sem]) (by simp[go_sem]) (T.j _ _ n.j) ?_;rintro e gh ⟨rfl,l⟩;have z:=Y (f.j _ _ l.j);refine⟨_,rfl,?_⟩;refine Zb d z.j ?_;refine Zt 7 z.j ?_;refine Zt 8 z.j ?_;refine Zt 9 z.j ?_;refine Zy 10 (λK d=>?_);go_simp;obtain⟨ub,j⟩:=Ze (gh.heap.size);obtain⟨wG,xc⟩:=Ze (gh.alloc (.cells #[O 0,O 0,O 0,J 0,J 0,O 0,O 0,J 0] 84));have r:Hid (ai U w kb mb sb pb qb bb tb D ks G ((ub,.cells jd.toArray 84 (0,0))::F) m wG):=by rw[xc,j];exact(l.j.alloc _)
      have x:=Y (lI l.j j);have y:=Y (f.j _ _ r.j);rw[<-xc,<-j];clear xc j;refine Zb d y.j ?_;refine Zy 11 (λK d=>?_);refine nx (.tmp 5) (.tmp 15) rfl rfl (u:=rc) (ub:=ub) (by simp[Act.eval]) (by simp[Act.eval,bz,bj]) (r.j.at List.mem_cons_self) ?_;have B:=Y (r.j.l9 rc x.j.1 x.j.2);have C:=Y (f.j _ _ B.j);refine Zb d C.j ?_;refine Zt 12 C.j ?_;refine wpAnyH_done Zx ?_ _
      go_wp2
      go_meet;exact⟨_,rfl,rfl,B,x⟩
    as_aux_lemma=>
     go_simp;obtain⟨ub,j⟩:=Ze (A.heap.size);obtain⟨gh,iv⟩:=Ze (A.alloc (.cells #[O 0,O 0,O 0,J 0,J 0,O 0,O 0,J 0] 84));have l:Hid (ai U w kb mb sb pb qb bb tb D ks G ((ub,.cells jd.toArray 84 (0,0))::F) m gh):=by rw[iv,j];exact(n.j.alloc _)
     have x:=Y (lI n.j j);have z:=Y (f.j _ _ l.j);rw[<-iv,<-j];clear iv j;refine Zb d z.j ?_;refine Zy 6 (λK d=>?_);refine dc rfl 55 #[Operand.tmp 11,Operand.tmp 13] #[92,45] rfl #[M sb,.agg #[O nn,O 1]] (by first|rfl|simp[Act.eval,go_sem]) (by simp[go_sem]) (T.j _ _ l.j) ?_;rintro e wG ⟨rfl,r⟩;have y:=Y (f.j _ _ r.j);refine⟨_,rfl,?_⟩;refine Zb d y.j ?_;refine Zt 7 y.j ?_;refine Zt 8 y.j ?_;refine Zt 9 y.j ?_;refine Zy 11 (λK d=>?_);refine nx (.tmp 5) (.tmp 15) rfl rfl (u:=rc) (ub:=ub) (by simp[Act.eval]) (by simp[Act.eval,bz,bj]) (r.j.at List.mem_cons_self) ?_;have B:=Y (r.j.l9 rc x.j.1 x.j.2);have C:=Y (f.j _ _ B.j);refine Zb d C.j ?_;refine Zt 12 C.j ?_;refine wpAnyH_done Zx ?_ _
     go_wp2
     go_meet;exact⟨_,rfl,rfl,B,x⟩
  as_aux_lemma=>
   go_simp;obtain⟨ub,j⟩:=Ze (w1.heap.size);obtain⟨A,iy⟩:=Ze ((w1.alloc (.cells #[O 0,O 0,O 0,J 0,J 0,O 0,O 0,J 0] 84)).drew);have n:Hid (ai U w kb mb sb pb qb bb tb D ks G ((ub,.cells jd.toArray 84 (0,0))::F) m A):=by rw[iy,j];exact(eU.j.alloc _).drew
   have x:=Y (lI eU.j j);have X:=Y (f.j _ _ n.j);rw[<-iy,<-j];clear iy j;refine Zb d X.j ?_;refine Zy 5 (λK d=>?_);refine dc rfl 56 #[Operand.tmp 12,Operand.const (Value.int IntKind.i64 1)] #[106,3] rfl #[M a,O 1] (by first|rfl|simp[Act.eval,go_sem]) (by simp[go_sem]) (R.j _ _ n.j) ?_;rintro e gh ⟨rfl,l⟩;have z:=Y (f.j _ _ l.j);refine⟨_,rfl,?_⟩;refine Zb d z.j ?_;refine Zy 6 (λK d=>?_);refine dc rfl 55 #[Operand.tmp 11,Operand.tmp 13] #[92,45] rfl #[M sb,.agg #[O nn,O 1]] (by first|rfl|simp[Act.eval,go_sem]) (by simp[go_sem]) (T.j _ _ l.j) ?_;rintro e wG ⟨rfl,r⟩;have y:=Y (f.j _ _ r.j);refine⟨_,rfl,?_⟩;refine Zb d y.j ?_;refine Zt 7 y.j ?_;refine Zt 8 y.j ?_;refine Zt 9 y.j ?_;refine Zy 11 (λK d=>?_);refine nx (.tmp 5) (.tmp 15) rfl rfl (u:=rc) (ub:=ub) (by simp[Act.eval]) (by simp[Act.eval,bz,bj]) (r.j.at List.mem_cons_self) ?_;have B:=Y (r.j.l9 rc x.j.1 x.j.2);have C:=Y (f.j _ _ B.j);refine Zb d C.j ?_;refine Zt 12 C.j ?_;refine wpAnyH_done Zx ?_ _
   go_wp2
   go_meet;exact⟨_,rfl,rfl,B,x⟩
 case rest=>
  obtain⟨ub,rfl,rfl,H2,EW⟩:=hcut;clear g P eU R T f;have fN:=H2.j.at List.mem_cons_self;have l0:wc.cell? (E ub 0)=some (O 4):=by rw[<-yc.j];exact Zl fN
  clear fN;go_upto_region 4 with fail
  subst hF;have P:=Y H2.j.swap.drew
  have aa:Hid (¬U rb/\∀p∈[((ub,.cells (bj rc).toArray 84 (0,0)):Nat×Obj)],p.1≠rb):=⟨AV.j.1,λp hp he=>by
   rw[List.mem_singleton] at hp;subst hp
   exact EW.j.2 _ List.mem_cons_self he.symm⟩
  have f:Hid (∀(q:Obj×Kn) wv,ai U w kb mb sb pb qb bb tb D ks G [(rb,q.1),(ub,.cells (bj rc).toArray 84 (0,0))] q.2 wv->Zc wv kb 0 (M mb)/\Zc wv ub 1 (O rc.num)):=λq wv h=>⟨h.c.1,(cell_of_row _ _ 1 _ _ (0,0) (h.at (b:=ub) (o:=.cells (bj rc).toArray 84 (0,0)) (List.mem_cons_of_mem _ List.mem_cons_self))).trans rfl⟩
  have g:=Y (f.j (_,_) _ P.j);clear l0;refine lY (S:=(λwv=>wv.cell? (E kb 0)=some (M mb)/\wv.cell? (E ub 1)=some (O rc.num))) Zx ?_;simp only[List.size_toArray,List.length_cons,List.length_nil,Nat.zero_add,Nat.reduceAdd];refine Zt 0 g.j ?_;refine Zt 1 g.j ?_;refine Zt 2 g.j ?_;refine Zt 3 g.j ?_;refine Zt 4 g.j ?_;refine Zt 5 g.j ?_;refine Zt 6 g.j ?_;refine Zt 7 g.j ?_;refine Zt 8 g.j ?_;refine Zt 9 g.j ?_;refine Zy 10 (λK d=>?_);refine dc rfl 57 #[Operand.tmp 34,Operand.tmp 37,Operand.tmp 40] #[91,3,164] rfl #[M mb,O rc.num,.pointer (some (E a 2))] (by first|rfl|simp[Act.eval,go_sem]) (by simp[go_sem]) (W.j _ _ P.j) ?_;rintro e A ⟨rfl,n⟩;have X:=Y (f.j (_,_) _ n.j);refine⟨_,rfl,?_⟩;refine Zb d X.j ?_;refine Zy 11 (λK d=>?_);refine afb (.tmp 4) (.tmp 41) rfl rfl (b:=b) (c:=cz) (t:=tv) (ub:=rb) (by simp[Act.eval]) (by simp[Act.eval]) (n.j.at List.mem_cons_self) ?_;have l:=Y (n.j.stE b cz tv aa.j);have z:=Y (f.j (_,_) _ l.j);refine Zb d z.j ?_;refine wpAnyH_done Zx ?_ _;have hz:=l.j.at List.mem_cons_self;have HO:=Y l.j.fin;have z0:(A.setCells rb 0 (lK b cz tv)).cell? (E rb 0)=some (.bool b):=Zl hz;have z1:(A.setCells rb 0 (lK b cz tv)).cell? (E rb 1)=some (O cz):=Zl hz;have z2:(A.setCells rb 0 (lK b cz tv)).cell? (E rb 2)=some (J (tv:Int)):=Zl hz;clear hz;generalize A.setCells rb 0 (lK b cz tv)=w9 at z0 z1 z2 HO|-;go_wp2_with fail;refine bodyPost_ret (v:=.agg (lK b cz tv).toArray) ?_ rfl ⟨rfl,HO.j⟩;simp[results,results19,go_sem,lK,z0,z1,z2]
theorem aev(h:aq U w kb mb sb pb qb bb tb D ks G K)(hi:i<K.T.length)(hn:af K.T[i].num)(hf:da K.T K.T[i].num=some i)(hg:aI K.bs K.es (K.T[i].num,2)=(lv,11))(b cz)(tv:Nat):Zk 21 #[M kb,.pointer (some ⟨G K.T[i].num,0,none⟩),.agg #[.bool b,O cz,J (tv:Int)]] w λe w'=>Zr e (.tuple #[])/\aq U w' kb mb sb pb qb bb tb D ks G (gj K i 0)/\Zn U w w':=by
 have⟨j,z⟩:=Ze (K);have⟨w1,Q⟩:=Ze (w.alloc (.cells #[.bool b,O cz,J (tv:Int)] 58));have⟨rb,R⟩:=Ze (w.heap.size);have⟨F,hF⟩:∃F:List (Nat×Obj),F=[(rb,.cells (lK b cz tv).toArray 58 (0,0))]:=⟨_,rfl⟩;have H1:Hid (ai U w kb mb sb pb qb bb tb D ks G F j w1):=by rw[Q,hF,R,z];exact(ai.start h).alloc _
 have A:Hid (∀F wv,ai U w kb mb sb pb qb bb tb D ks G F j wv->Zk 56 #[.pointer (some ⟨G K.T[i].num,0,none⟩),O 2] wv λe w'=>Zr e (.agg #[O K.T[i].num,O 2])/\Hid (ai U w kb mb sb pb qb bb tb D ks G F j w')):=λF wv x=>by
  have Ed:=z▸x;refine(PT (Ed.num hi) 2).m ?_;rintro e w' ⟨rfl,ho⟩;exact⟨rfl,x.quiet ho⟩
 have B:Hid (∀F wv,ai U w kb mb sb pb qb bb tb D ks G F j wv->Zk 55 #[M sb,.agg #[O K.T[i].num,O 2]] wv λe w'=>Zr e (.tuple #[bz lv,O 11])/\Hid (ai U w kb mb sb pb qb bb tb D ks G F j w')):=λF wv x=>(x.read (λV h=>by
  exact (h.Cq (s:=(K.T[i].num,2)) (c:=lv) (e:=11) (by rw[z];exact hg) hn) wv (H.refl _ _)))
 have T:Hid (∀F wv,ai U w kb mb sb pb qb bb tb D ks G F j wv->Zk 61 #[M kb,.pointer (some ⟨G K.T[i].num,0,none⟩),O 0] wv λe w'=>Zr e (.tuple #[])/\Hid (ai U w kb mb sb pb qb bb tb D ks G F (gj K i 0) w')):=λF wv x=>(z▸x:ai U w kb mb sb pb qb bb tb D ks G F K wv).call (λV h=>Hk h hi hn hf 0)
 obtain⟨KE,aJ⟩:=Ze (gj K i 0);rw[<-aJ] at T|-;obtain⟨W,dN⟩:=Ze (K.T[i].num);obtain⟨a,gv⟩:=Ze (G K.T[i].num);rw[<-gv] at A T|-;rw[<-dN] at A B;clear h hi hn hg hf dN gv z aJ;go_enter func21,ntmps21;go_upto_region 1 with fail
 rw[<-Q,<-R];clear Q R;have N:=H1;have X:=Y N.j.drew;have g:Hid (∀F9 wv,ai U w kb mb sb pb qb bb tb D ks G F9 j wv->Zc wv kb 1 (M sb)):=λF9 wv h=>h.c.2.1
 have y:=Y (g.j _ _ X.j);go_cut [6,7] from 9 to 19 (λc7 c8 wx=>∃ub,c7=M ub/\c8=O 11/\Hid (ai U w kb mb sb pb qb bb tb D ks G ((ub,.cells (bj lv).toArray 84 (0,0))::F) j wx)/\Hid (¬U ub/\∀p∈F,p.1≠ub))
 case first=>
  refine lY (S:=(λwv=>wv.cell? (E kb 1)=some (M sb))) Zx ?_;simp only[List.size_toArray,List.length_cons,List.length_nil,Nat.zero_add,Nat.reduceAdd];refine Zt 0 y.j ?_;refine Zt 1 y.j ?_;refine Zt 2 y.j ?_;refine Zt 3 y.j ?_;refine Zt 4 y.j ?_;refine wpAnyH_ready (rs:=[5,10]) Zx (by simp) ?_;refine(AllReadyH.cons Zg (λK d=>?_) (AllReadyH.cons Zg (λK d=>?_) AllReadyH.nil))
  ·as_aux_lemma=>
    refine dc rfl 56 #[Operand.tmp 14,Operand.const (Value.int IntKind.i64 2)] #[106,3] rfl #[M a,O 2] (by first|rfl|simp[Act.eval,go_sem]) (by simp[go_sem]) (A.j _ _ X.j) ?_;rintro e P ⟨rfl,t⟩;have dW:=Y (g.j _ _ t.j);refine⟨_,rfl,?_⟩;refine Zb d dW.j ?_;refine wpAnyH_ready (rs:=[6,10]) Zx (by simp) ?_;refine(AllReadyH.cons Zg (λK d=>?_) (AllReadyH.cons Zg (λK d=>?_) AllReadyH.nil))
    ·as_aux_lemma=>
      refine dc rfl 55 #[Operand.tmp 13,Operand.tmp 15] #[92,45] rfl #[M sb,.agg #[O W,O 2]] (by first|rfl|simp[Act.eval,go_sem]) (by simp[go_sem]) (B.j _ _ t.j) ?_;rintro e C ⟨rfl,n⟩;have o:=Y (g.j _ _ n.j);refine⟨_,rfl,?_⟩;refine Zb d o.j ?_;refine Zt 7 o.j ?_;refine Zt 8 o.j ?_;refine Zt 9 o.j ?_;refine Zy 10 (λK d=>?_);go_simp;obtain⟨ub,f⟩:=Ze (C.heap.size);obtain⟨wG,xc⟩:=Ze (C.alloc (.cells #[O 0,O 0,O 0,J 0,J 0,O 0,O 0,J 0] 84));have k:Hid (ai U w kb mb sb pb qb bb tb D ks G ((ub,.cells jd.toArray 84 (0,0))::F) j wG):=by rw[xc,f];exact(n.j.alloc _)
      have l:=Y (lI n.j f);have m:=Y (g.j _ _ k.j);rw[<-xc,<-f];clear xc f;refine Zb d m.j ?_;refine Zy 11 (λK d=>?_);refine nx (.tmp 6) (.tmp 17) rfl rfl (u:=lv) (ub:=ub) (by simp[Act.eval]) (by simp[Act.eval,bz,bj]) (k.j.at List.mem_cons_self) ?_;have q:=Y (k.j.l9 lv l.j.1 l.j.2);have r:=Y (g.j _ _ q.j);refine Zb d r.j ?_;refine Zt 12 r.j ?_;refine wpAnyH_done Zx ?_ _
      go_wp2
      go_meet;exact⟨_,rfl,rfl,q,l⟩
    as_aux_lemma=>
     go_simp;obtain⟨ub,f⟩:=Ze (P.heap.size);obtain⟨C,iv⟩:=Ze (P.alloc (.cells #[O 0,O 0,O 0,J 0,J 0,O 0,O 0,J 0] 84));have n:Hid (ai U w kb mb sb pb qb bb tb D ks G ((ub,.cells jd.toArray 84 (0,0))::F) j C):=by rw[iv,f];exact(t.j.alloc _)
     have l:=Y (lI t.j f);have o:=Y (g.j _ _ n.j);rw[<-iv,<-f];clear iv f;refine Zb d o.j ?_;refine Zy 6 (λK d=>?_);refine dc rfl 55 #[Operand.tmp 13,Operand.tmp 15] #[92,45] rfl #[M sb,.agg #[O W,O 2]] (by first|rfl|simp[Act.eval,go_sem]) (by simp[go_sem]) (B.j _ _ n.j) ?_;rintro e wG ⟨rfl,k⟩;have m:=Y (g.j _ _ k.j);refine⟨_,rfl,?_⟩;refine Zb d m.j ?_;refine Zt 7 m.j ?_;refine Zt 8 m.j ?_;refine Zt 9 m.j ?_;refine Zy 11 (λK d=>?_);refine nx (.tmp 6) (.tmp 17) rfl rfl (u:=lv) (ub:=ub) (by simp[Act.eval]) (by simp[Act.eval,bz,bj]) (k.j.at List.mem_cons_self) ?_;have q:=Y (k.j.l9 lv l.j.1 l.j.2);have r:=Y (g.j _ _ q.j);refine Zb d r.j ?_;refine Zt 12 r.j ?_;refine wpAnyH_done Zx ?_ _
     go_wp2
     go_meet;exact⟨_,rfl,rfl,q,l⟩
  as_aux_lemma=>
   go_simp;obtain⟨ub,f⟩:=Ze (w1.heap.size);obtain⟨P,iy⟩:=Ze ((w1.alloc (.cells #[O 0,O 0,O 0,J 0,J 0,O 0,O 0,J 0] 84)).drew);have t:Hid (ai U w kb mb sb pb qb bb tb D ks G ((ub,.cells jd.toArray 84 (0,0))::F) j P):=by rw[iy,f];exact(N.j.alloc _).drew
   have l:=Y (lI N.j f);have dW:=Y (g.j _ _ t.j);rw[<-iy,<-f];clear iy f;refine Zb d dW.j ?_;refine Zy 5 (λK d=>?_);refine dc rfl 56 #[Operand.tmp 14,Operand.const (Value.int IntKind.i64 2)] #[106,3] rfl #[M a,O 2] (by first|rfl|simp[Act.eval,go_sem]) (by simp[go_sem]) (A.j _ _ t.j) ?_;rintro e C ⟨rfl,n⟩;have o:=Y (g.j _ _ n.j);refine⟨_,rfl,?_⟩;refine Zb d o.j ?_;refine Zy 6 (λK d=>?_);refine dc rfl 55 #[Operand.tmp 13,Operand.tmp 15] #[92,45] rfl #[M sb,.agg #[O W,O 2]] (by first|rfl|simp[Act.eval,go_sem]) (by simp[go_sem]) (B.j _ _ n.j) ?_;rintro e wG ⟨rfl,k⟩;have m:=Y (g.j _ _ k.j);refine⟨_,rfl,?_⟩;refine Zb d m.j ?_;refine Zt 7 m.j ?_;refine Zt 8 m.j ?_;refine Zt 9 m.j ?_;refine Zy 11 (λK d=>?_);refine nx (.tmp 6) (.tmp 17) rfl rfl (u:=lv) (ub:=ub) (by simp[Act.eval]) (by simp[Act.eval,bz,bj]) (k.j.at List.mem_cons_self) ?_;have q:=Y (k.j.l9 lv l.j.1 l.j.2);have r:=Y (g.j _ _ q.j);refine Zb d r.j ?_;refine Zt 12 r.j ?_;refine wpAnyH_done Zx ?_ _
   go_wp2
   go_meet;exact⟨_,rfl,rfl,q,l⟩
 case rest=>
  obtain⟨ub,rfl,rfl,H2,EW⟩:=hcut;clear y X N A B g;have aZ:=Y (T.j _ _ H2.j);go_wp2_with fail;refine aZ.j.m ?_;rintro e w3 ⟨rfl,H3⟩;go_wp2_with fail
  all_goals
   first|(go_end0;exact⟨rfl,H3.j.fin⟩)|(refine bodyPost_ret (v:=.tuple #[]) ?_ rfl ⟨rfl,H3.j.fin⟩;simp[results,results21])
end
theorem aq.next(h:aq U w kb mb sb pb qb bb tb D ks G K):Zk 18 #[M qb] w λe w'=>Zr e (O (nC K))/\aq U w' kb mb sb pb qb bb tb D ks G (bJ K)/\Zn U w w':=
 aN.call h 3 rfl (jY.dF qb K.ts (kH K.ts K.t K.lf) (ov K.ts K.t K.lf) (mf K.ss K.ck (tY K.ts K.t K.lf)).1 (mf K.ss K.ck (tY K.ts K.t K.lf)).2.1) (λd a=>by
  obtain⟨G,a⟩:=a;refine(acD a).m ?_;rintro e w' ⟨h1,b,c⟩
  exact⟨h1,⟨G,b⟩,c⟩)
theorem ai.d6(h:ai U w kb mb sb pb qb bb tb D ks G F K wv){a0 a1 a2 a3 a4 a5:Z3}(hm:(b,.cells #[a0,a1,a2,a3,a4,a5] 60 (0,0))∈F):wv.cell? (E b 0)=some a0/\wv.cell? (E b 1)=some a1/\wv.cell? (E b 2)=some a2/\wv.cell? (E b 3)=some a3/\wv.cell? (E b 4)=some a4/\wv.cell? (E b 5)=some a5/\(∀j,wv.frozen? (E b j)=false)/\b<wv.heap.size:=by
 have hr:=h.at hm;exact⟨Zl hr,Zl hr,Zl hr,Zl hr,Zl hr,Zl hr,λj=>fX hr j,aB hr⟩
theorem ai.Mr(h:ai U w kb mb sb pb qb bb tb D ks G F K wv){o:Obj}(hm:(b,o)∈F)(c:¬U b)(a:H (λk=>k=b) wv w2):aq U w2 kb mb sb pb qb bb tb D ks G K/\Zn U w w2:=by
 have⟨⟨V,h1,d,e⟩,g,f⟩:=h;exact⟨(jX.j (aN.dF _) e a (λk _ hk=>by subst hk;exact d _ hm)).thin h1,f.trans (a.mono (λk _ hk=>by subst hk;exact c))⟩
section
variable {c:Nat}
theorem ae5(h:aq U w kb mb sb pb qb bb tb D ks G K)(hN:nC K= -1)(g:KE=bJ K):Zk 12 #[M kb] w λe w'=>∃v,Zr e v/\aq U w' kb mb sb pb qb bb tb D ks G KE/\Zn U w w':=by
 have⟨w1,c⟩:=Ze (w.alloc (.cells #[O 0,.bool false,O 0,J 0,O 0,O 0] 60));have⟨rb,a⟩:=Ze (w.heap.size);have i:=Y (lI (ai.start h) a).1;have H1:Hid (ai U w kb mb sb pb qb bb tb D ks G [(rb,.cells #[O 0,.bool false,O 0,J 0,O 0,O 0] 60 (0,0))] K w1):=by rw[c,a];exact(ai.start h).alloc _
 have d:=Y (H1.j.call (λV h=>h.next));have j:=H1.j.c.2.2.2.1;rw[hN,<-g] at d;go_enter func12,ntmps12;go_upto_region 1 with fail
 rw[<-c,<-a];clear c a;go_wp2_with fail;refine d.j.m ?_;rintro e w2 ⟨rfl,f⟩;clear d j H1;obtain⟨z0,k,z2,z3,z4,z5,l,m⟩:=f.j.d6 List.mem_cons_self;go_wp2_with fail
 all_goals
  refine bodyPost_ret (v:=.agg #[O (-1),.bool false,O 0,J 0,O 0,O 0]) ?_ rfl ⟨_,rfl,f.j.Mr (b:=rb) List.mem_cons_self i.j (Iv _ _ _ _ _ _ _ _)⟩;simp[results,results12,go_sem,z0,k,z2,z3,z4,z5]
theorem ae3(h:aq U w kb mb sb pb qb bb tb D ks G K)(hi:i<K.T.length)(hN:nC K=K.T[i].num)(hn:af K.T[i].num)(hf:da K.T K.T[i].num=some i)(h1:K.T[i].num≠ -1)(u:∀V wv,Zn U w wv->(∀k,U k->V k)->aq V wv kb mb sb pb qb bb tb D ks G (bJ K)->Zk 19 #[M kb,.pointer (some ⟨G K.T[i].num,0,none⟩)] wv λe w'=>Zr e (.agg (lK false 0 0).toArray)/\aq V w' kb mb sb pb qb bb tb D ks G KE/\Zn V wv w'):Zk 12 #[M kb] w λe w'=>∃v,Zr e v/\aq U w' kb mb sb pb qb bb tb D ks G KE/\Zn U w w':=by
 have⟨w1,q⟩:=Ze (w.alloc (.cells #[O 0,.bool false,O 0,J 0,O 0,O 0] 60));have⟨rb,f⟩:=Ze (w.heap.size);have P:=Y (lI (ai.start h) f).1;have H1:Hid (ai U w kb mb sb pb qb bb tb D ks G [(rb,.cells #[O 0,.bool false,O 0,J 0,O 0,O 0] 60 (0,0))] K w1):=by rw[q,f];exact(ai.start h).alloc _
 have c:=Y (H1.j.call (λV h=>h.next));have Q:=H1.j.c.2.2.2.1;have g:Hid (∀F wv,ai U w kb mb sb pb qb bb tb D ks G F (bJ K) wv->Zk 19 #[M kb,.pointer (some ⟨G K.T[i].num,0,none⟩)] wv λe w'=>Zr e (.agg #[.bool false,O 0,J 0])/\Hid (ai U w kb mb sb pb qb bb tb D ks G F KE w')):=λF wv r=>by
  have⟨⟨V,h1,x,R⟩,S,y⟩:=r;refine(u V wv y h1 R).m ?_;rintro e w' ⟨rfl,T,z⟩;exact⟨rfl,⟨V,h1,x,T⟩,λp hp=>H.keep z (S p hp) (λh=>h (x p hp)),y.trans (z.mono (λk _ W X=>W (h1 k X)))⟩
 have d:=Y (λF wv(r:ai U w kb mb sb pb qb bb tb D ks G F (bJ K) wv)=>r.look hn (j:=i) hf);rw[hN] at c;have⟨l,A⟩:=Ze (K.T[i].num);have⟨a,B⟩:=Ze (G K.T[i].num);have⟨KN,C⟩:=Ze (bJ K);rw[<-B] at d g;rw[<-A] at d c h1;rw[<-C] at d g c;have e1:(l== -1)=false:=beq_eq_false_iff_ne.2 h1;clear h hi hN hn hf h1 u A B C;go_enter func12,ntmps12;go_upto_region 1 with fail
 rw[<-q,<-f];clear q f;go_wp2_with fail;refine c.j.m ?_;rintro e w2 ⟨rfl,m⟩;clear c Q H1;have q5:=m.j.c.2.2.2.2.2;have fZ:=d.j _ _ m.j;have N:=Y (g.j _ _ m.j);clear d g;go_wp2_with fail;refine N.j.m ?_;rintro e w3 ⟨rfl,s⟩;clear q5 fZ N m;obtain⟨w4,t⟩:=Ze (w3.alloc (.cells #[O l,.bool false,O 0,J 0,O 0,O 0] 60));obtain⟨db,n⟩:=Ze (w3.heap.size);have OL:=Y (lI s.j n);have o:=Y (s.j.alloc (.cells #[O l,.bool false,O 0,J 0,O 0,O 0] 60 (0,0)));rw[<-t,<-n] at o;go_upto_region 7 with fail
 rw[<-t,<-n];clear t n s;obtain⟨d0,d1,d2,d3,d4,d5,df,dl⟩:=o.j.d6 List.mem_cons_self;obtain⟨z0,z1,z2,z3,z4,z5,zf,zl⟩:=o.j.d6 (b:=rb) (List.mem_cons_of_mem _ List.mem_cons_self);go_wp2_with fail
 all_goals
  refine bodyPost_ret (v:=.agg #[O l,.bool false,O 0,J 0,O 0,O 0]) ?_ rfl ⟨_,rfl,o.j.Mr (b:=rb) (List.mem_cons_of_mem _ List.mem_cons_self) P.j (Iv _ _ _ _ _ _ _ _)⟩;simp[results,results12,go_sem,z0,z1,z2,z3,z4,z5]
theorem ae1(h:aq U w kb mb sb pb qb bb tb D ks G K)(hi:i<K.T.length)(hN:nC K=K.T[i].num)(hn:af K.T[i].num)(hf:da K.T K.T[i].num=some i)(h1:K.T[i].num≠ -1)(y:∀V wv,Zn U w wv->(∀k,U k->V k)->aq V wv kb mb sb pb qb bb tb D ks G (bJ K)->Zk 19 #[M kb,.pointer (some ⟨G K.T[i].num,0,none⟩)] wv λe w'=>Zr e (.agg (lK true 3 tv).toArray)/\aq V w' kb mb sb pb qb bb tb D ks G (bJ K)/\Zn V wv w')(z:∀V wv,aq V wv kb mb sb pb qb bb tb D ks G (bJ K)->Zk 21 #[M kb,.pointer (some ⟨G K.T[i].num,0,none⟩),.agg #[.bool true,O 3,J (tv:Int)]] wv λe w'=>Zr e (.tuple #[])/\aq V w' kb mb sb pb qb bb tb D ks G KE/\Zn V wv w'):Zk 12 #[M kb] w λe w'=>∃v,Zr e v/\aq U w' kb mb sb pb qb bb tb D ks G KE/\Zn U w w':=by
 have⟨w1,s⟩:=Ze (w.alloc (.cells #[O 0,.bool false,O 0,J 0,O 0,O 0] 60));have⟨rb,g⟩:=Ze (w.heap.size);have W:=Y (lI (ai.start h) g).1;have H1:Hid (ai U w kb mb sb pb qb bb tb D ks G [(rb,.cells #[O 0,.bool false,O 0,J 0,O 0,O 0] 60 (0,0))] K w1):=by rw[s,g];exact(ai.start h).alloc _
 have c:=Y (H1.j.call (λV h=>h.next));have X:=H1.j.c.2.2.2.1;have l:Hid (∀F wv,ai U w kb mb sb pb qb bb tb D ks G F (bJ K) wv->Zk 19 #[M kb,.pointer (some ⟨G K.T[i].num,0,none⟩)] wv λe w'=>Zr e (.agg #[.bool true,O 3,J (tv:Int)])/\Hid (ai U w kb mb sb pb qb bb tb D ks G F (bJ K) w')):=λF wv d=>by
  have⟨⟨V,h1,A,h3⟩,h4,B⟩:=d;refine(y V wv B h1 h3).m ?_;rintro e w' ⟨rfl,h6,C⟩;exact⟨rfl,⟨V,h1,A,h6⟩,λp hp=>H.keep C (h4 p hp) (λh=>h (A p hp)),B.trans (C.mono (λk _ h8 h9=>h8 (h1 k h9)))⟩
 have f:Hid (∀F wv,ai U w kb mb sb pb qb bb tb D ks G F (bJ K) wv->(Instr.lookup 96 (.map (some tb)) (O K.T[i].num) false).run prog wv=.ok (.pointer (some ⟨G K.T[i].num,0,none⟩)) wv):=λF wv d=>d.look hn (j:=i) hf
 rw[hN] at c;have m:Hid (∀F wv,ai U w kb mb sb pb qb bb tb D ks G F (bJ K) wv->Zk 21 #[M kb,.pointer (some ⟨G K.T[i].num,0,none⟩),.agg #[.bool true,O 3,J (tv:Int)]] wv λe w'=>Zr e (.tuple #[])/\Hid (ai U w kb mb sb pb qb bb tb D ks G F KE w')):=λF wv d=>d.call (λV h=>z V wv h)
 obtain⟨n,N⟩:=Ze (K.T[i].num);obtain⟨a,P⟩:=Ze (G K.T[i].num);obtain⟨KN,Q⟩:=Ze (bJ K);rw[<-P] at f l m;rw[<-N] at f c h1;rw[<-Q] at f l c m;have e1:(n== -1)=false:=beq_eq_false_iff_ne.2 h1;clear h hi hN hn hf h1 y N P Q z;go_enter func12,ntmps12;go_upto_region 1 with fail
 rw[<-s,<-g];clear s g;go_wp2_with fail;refine c.j.m ?_;rintro e w2 ⟨rfl,o⟩;clear c X H1;have q5:=o.j.c.2.2.2.2.2;have fZ:=f.j _ _ o.j;have R:=Y (l.j _ _ o.j);clear f l;go_wp2_with fail;refine R.j.m ?_;rintro e w3 ⟨rfl,t⟩;clear q5 fZ R o;obtain⟨w4,u⟩:=Ze (w3.alloc (.cells #[O n,.bool true,O 3,J (tv:Int),O 0,O 0] 60));obtain⟨db,q⟩:=Ze (w3.heap.size);have OL:=Y (lI t.j q);have r:=Y (t.j.alloc (.cells #[O n,.bool true,O 3,J (tv:Int),O 0,O 0] 60 (0,0)));rw[<-u,<-q] at r;go_upto_region 7 with fail
 rw[<-u,<-q];clear u q t;obtain⟨d0,d1,d2,d3,d4,d5,S,dl⟩:=r.j.d6 List.mem_cons_self;have T:=Y (m.j _ _ r.j);go_wp2_with fail;refine T.j.m ?_;rintro e w5 ⟨rfl,x⟩;clear d0 d1 d2 d3 d4 d5 S dl T r m;obtain⟨d0,d1,d2,d3,d4,d5,S,dl⟩:=x.j.d6 List.mem_cons_self;obtain⟨z0,z1,z2,z3,z4,z5,zf,zl⟩:=x.j.d6 (b:=rb) (List.mem_cons_of_mem _ List.mem_cons_self);go_wp2_with fail
 all_goals
  refine bodyPost_ret (v:=.agg #[O n,.bool true,O 3,J (tv:Int),O 0,O 0]) ?_ rfl ⟨_,rfl,x.j.Mr (b:=rb) (List.mem_cons_of_mem _ List.mem_cons_self) W.j (Iv _ _ _ _ _ _ _ _)⟩;simp[results,results12,go_sem,z0,z1,z2,z3,z4,z5]
theorem aea(h:aq U w kb mb sb pb qb bb tb D ks G K)(hi:i<K.T.length)(hN:nC K=K.T[i].num)(hn:af K.T[i].num)(hf:da K.T K.T[i].num=some i)(h1:K.T[i].num≠ -1){n:Int}(nS:K.T[i].pc=(pc:Int))(cY:pc+4<4294967296)(bV:∀V wv,Zn U w wv->(∀k,U k->V k)->aq V wv kb mb sb pb qb bb tb D ks G (bJ K)->Zk 19 #[M kb,.pointer (some ⟨G K.T[i].num,0,none⟩)] wv λe w'=>Zr e (.agg (lK true 8 0).toArray)/\aq V w' kb mb sb pb qb bb tb D ks G (bJ K)/\Zn V wv w')(Ej:∀V wv,Zn U w wv->(∀k,U k->V k)->aq V wv kb mb sb pb qb bb tb D ks G (ba (bJ K) i {K.T[i] with pc:=((pc+4:Nat):Int)})->Zk 20 #[M kb,.pointer (some ⟨G K.T[i].num,0,none⟩)] wv λe w'=>Zr e (.tuple #[O n,O 0])/\aq V w' kb mb sb pb qb bb tb D ks G KE/\Zn V wv w'):Zk 12 #[M kb] w λe w'=>∃v,Zr e v/\aq U w' kb mb sb pb qb bb tb D ks G KE/\Zn U w w':=by
 have⟨w1,S⟩:=Ze (w.alloc (.cells #[O 0,.bool false,O 0,J 0,O 0,O 0] 60));have⟨rb,x⟩:=Ze (w.heap.size);have AV:=Y (lI (ai.start h) x).1;have H1:Hid (ai U w kb mb sb pb qb bb tb D ks G [(rb,.cells #[O 0,.bool false,O 0,J 0,O 0,O 0] 60 (0,0))] K w1):=by rw[S,x];exact(ai.start h).alloc _
 have r:=Y (H1.j.call (λV h=>h.next));have q3:=H1.j.c.2.2.2.1;have z:Hid (∀F wv,ai U w kb mb sb pb qb bb tb D ks G F (bJ K) wv->Zk 19 #[M kb,.pointer (some ⟨G K.T[i].num,0,none⟩)] wv λe w'=>Zr e (.agg #[.bool true,O 8,J 0])/\Hid (ai U w kb mb sb pb qb bb tb D ks G F (bJ K) w')):=λF wv d=>by
  obtain⟨⟨V,h1,m,s⟩,A,c⟩:=d;refine(bV V wv c h1 s).m ?_;rintro e w' ⟨rfl,T,f⟩;exact⟨rfl,⟨V,h1,m,T⟩,λp hp=>H.keep f (A p hp) (λh=>h (m p hp)),c.trans (f.mono (λk _ o q=>o (h1 k q)))⟩
 have t:Hid (∀F wv,ai U w kb mb sb pb qb bb tb D ks G F (bJ K) wv->(Instr.lookup 96 (.map (some tb)) (O K.T[i].num) false).run prog wv=.ok (.pointer (some ⟨G K.T[i].num,0,none⟩)) wv):=λF wv d=>d.look hn (j:=i) hf
 rw[hN] at r
 have l:Hid (∀F wv,ai U w kb mb sb pb qb bb tb D ks G F (bJ K) wv->wv.cell? ⟨G K.T[i].num,34,none⟩=some (J (pc:Int))/\wv.frozen? ⟨G K.T[i].num,34,none⟩=false/\ai U w kb mb sb pb qb bb tb D ks G F (ba (bJ K) i {K.T[i] with pc:=((pc+4:Nat):Int)}) (wv.setCell ⟨G K.T[i].num,34,none⟩ (J ((pc+4:Nat):Int)))):=λF wv d=>by
  obtain⟨⟨V,h1,m,s⟩,A,c⟩:=id d;have th:=s.th (show i<(bJ K).T.length from hi);refine⟨?_,fX th 34,d.on (λV h=>h.GB (show i<(bJ K).T.length from hi) 34 (J ((pc+4:Nat):Int)) (y:={K.T[i] with pc:=((pc+4:Nat):Int)}) rfl (aes G _ _))⟩;have q:wv.cell? ⟨G K.T[i].num,34,none⟩=some (J K.T[i].pc):=(cell_of_row _ _ 34 _ _ (0,0) th).trans (zI G _).1;rw[nS] at q;exact q
 have B:Hid (∀F wv,ai U w kb mb sb pb qb bb tb D ks G F (ba (bJ K) i {K.T[i] with pc:=((pc+4:Nat):Int)}) wv->Zk 20 #[M kb,.pointer (some ⟨G K.T[i].num,0,none⟩)] wv λe w'=>Zr e (.tuple #[O n,O 0])/\Hid (ai U w kb mb sb pb qb bb tb D ks G F KE w')):=λF wv d=>by
  obtain⟨⟨V,h1,m,s⟩,A,c⟩:=d;refine(Ej V wv c h1 s).m ?_;rintro e w' ⟨rfl,T,f⟩;exact⟨rfl,⟨V,h1,m,T⟩,λp hp=>H.keep f (A p hp) (λh=>h (m p hp)),c.trans (f.mono (λk _ o q=>o (h1 k q)))⟩
 obtain⟨u,dN⟩:=Ze (K.T[i].num);obtain⟨a,gv⟩:=Ze (G K.T[i].num);obtain⟨KN,Cn⟩:=Ze (bJ K);obtain⟨KP,nY⟩:=Ze (ba (bJ K) i {K.T[i] with pc:=((pc+4:Nat):Int)});rw[<-nY] at l B;rw[<-gv] at t z l B;rw[<-dN] at t r h1;rw[<-Cn] at t z r l;have e1:(u== -1)=false:=beq_eq_false_iff_ne.2 h1;have MT:IntKind.u32.wrap ((pc:Int)+4)=((pc+4:Nat):Int):=by rw[IntKind.wrap_u32];omega
 obtain⟨pz,ZH⟩:=Ze (((pc+4:Nat):Int):Int);rw[<-ZH] at MT l;obtain⟨pq,ZI⟩:=Ze ((pc:Int):Int);rw[<-ZI] at MT l;clear h hi hN hn hf h1 bV dN gv Cn Ej nS cY nY ZH ZI;go_enter func12,ntmps12;go_upto_region 1 with fail
 rw[<-S,<-x];clear S x;go_wp2_with fail;refine r.j.m ?_;rintro e w2 ⟨rfl,C⟩;clear r q3 H1;have q5:=C.j.c.2.2.2.2.2;have fZ:=t.j _ _ C.j;have aZ:=Y (z.j _ _ C.j);clear t z;go_wp2_with fail;refine aZ.j.m ?_;rintro e w3 ⟨rfl,W⟩;clear q5 fZ aZ C;obtain⟨w4,X⟩:=Ze (w3.alloc (.cells #[O u,.bool true,O 8,J 0,O 0,O 0] 60));obtain⟨g,N⟩:=Ze (w3.heap.size);have OL:=Y (lI W.j N);have P:=Y (W.j.alloc (.cells #[O u,.bool true,O 8,J 0,O 0,O 0] 60 (0,0)));rw[<-X,<-N] at P;go_upto_region 7 with fail
 rw[<-X,<-N];clear X N W;obtain⟨d0,d1,d2,d3,d4,d5,Q,dl⟩:=P.j.d6 List.mem_cons_self;obtain⟨p0,pf,c⟩:=l.j _ _ P.j;have H5:=Y c;clear c l;obtain⟨w5,eZ⟩:=Ze (w4.setCell (E a 34) (J pz));rw[<-eZ] at H5;go_upto_region 10 with fail
 rw[<-eZ];clear eZ p0 pf d0 d1 d2 d3 d4 d5 Q dl P;have vj:=Y (B.j _ _ H5.j);go_wp2_with fail;refine vj.j.m ?_;rintro e w6 ⟨rfl,R⟩;clear vj H5 B;obtain⟨d0,d1,d2,d3,d4,d5,Q,dl⟩:=R.j.d6 List.mem_cons_self;have f:=heap_setCell_same w6 g 4 _ _ (O n) (R.j.at List.mem_cons_self);have o:=heap_setCell_same _ g 5 _ _ (O 0) f;obtain⟨w7,Rp⟩:=Ze ((w6.setCell (E g 4) (O n)).setCell (E g 5) (O 0))
 have H7:Hid (ai U w kb mb sb pb qb bb tb D ks G [(g,.cells #[O u,.bool true,O 8,J 0,O n,O 0] 60 (0,0)),(rb,.cells #[O 0,.bool false,O 0,J 0,O 0,O 0] 60 (0,0))] KE w7):=by
  rw[Rp];exact R.j.rh (((H.refl (λk=>k=g) w6).setCell (p:=E g 4) (Or.inl rfl) _).setCell (p:=E g 5) (Or.inl rfl) _) o OL.j.1 OL.j.2
 clear f o;go_upto_region 11 with fail
 rw[<-Rp];clear Rp d0 d1 d2 d3 d4 d5 Q dl R;obtain⟨d0,d1,d2,d3,d4,d5,Q,dl⟩:=H7.j.d6 List.mem_cons_self;obtain⟨z0,z1,z2,z3,z4,z5,zf,zl⟩:=H7.j.d6 (b:=rb) (List.mem_cons_of_mem _ List.mem_cons_self);go_wp2_with fail
 all_goals
  refine bodyPost_ret (v:=.agg #[O u,.bool true,O 8,J 0,O n,O 0]) ?_ rfl ⟨_,rfl,H7.j.Mr (b:=rb) (List.mem_cons_of_mem _ List.mem_cons_self) AV.j (Iv _ _ _ _ _ _ _ _)⟩;simp[results,results12,go_sem,z0,z1,z2,z3,z4,z5]
end
structure xQ(K:Kn)(i:Nat)(rc:Cp)(R:Nat->Nat)(pc:Nat):Prop where
 hi:i<K.T.length
 hN:nC K=K.T[i].num
 hn:af K.T[i].num
 hf:da K.T K.T[i].num=some i
 h1:K.T[i].num≠ -1
 hg:aI K.bs K.es (K.T[i].num,1)=(rc,0)
 hk:rc.kind=4
 hr:K.T[i].rg=iH R
 hp:K.T[i].pc=(pc:Int)
 pl:pc+4<4294967296
 Rl:∀j,j<32->R j<4294967296
section
variable {c:Nat}
theorem xQ.af8(h:xQ K i rc R pc)(hv:oh U w)(f:∃p,jL K.f K.n rc.num pc 4 0=.ok p/\oX (dec (bM K.f p:Nat)).op)(d:jK K.f K.n rc.num R pc=.ok (K.f,R',lB)):∀V wv,Zn U w wv->(∀k,U k->V k)->aq V wv kb mb sb pb qb bb tb D ks G (bJ K)->Zk 19 #[M kb,.pointer (some ⟨G (K.T[i]'h.hi).num,0,none⟩)] wv λe w'=>Zr e (.agg (lK false 0 0).toArray)/\aq V w' kb mb sb pb qb bb tb D ks G (ba (bJ K) i {K.T[i]'h.hi with rg:=iH R',pc:=(lB:Int)})/\Zn V wv w':=λV wv g j hk=>by
 refine VB (K:=bJ K) hk h.hi h.hn h.hg h.hk (λv w2 l m n=>?_);have a:oh U w2:=hv.on (g.trans (l.mono (λk _ o q=>o (j k q))));refine(n.td (show i<(bJ K).T.length from h.hi) a.us a.mi a.fo h.hr h.hp (by have:=h.pl;omega) h.Rl rc.num f).m ?_;rintro e w' (⟨c,t,h1,_⟩|⟨f',x,y,h1,rfl,r,s⟩)
 ·rw[show jK (bJ K).f (bJ K).n rc.num R pc=jK K.f K.n rc.num R pc from rfl,d] at h1;cases h1
 rw[show jK (bJ K).f (bJ K).n rc.num R pc=jK K.f K.n rc.num R pc from rfl,d] at h1;injection h1 with h1
 injection h1 with h1 b
 injection b with b u
 subst h1 b u;exact⟨rfl,r,s⟩
theorem xQ.VE(h:xQ K i rc R pc)(hv:oh U w)(g:∃p,jL K.f K.n rc.num pc 4 0=.ok p/\oX (dec (bM K.f p:Nat)).op)(b:jK K.f K.n rc.num R pc=.error (cz,tv)):∀V wv,Zn U w wv->(∀k,U k->V k)->aq V wv kb mb sb pb qb bb tb D ks G (bJ K)->Zk 19 #[M kb,.pointer (some ⟨G (K.T[i]'h.hi).num,0,none⟩)] wv λe w'=>Zr e (.agg (lK true cz tv).toArray)/\aq V w' kb mb sb pb qb bb tb D ks G (bJ K)/\Zn V wv w':=λV wv j l hk=>by
 refine VB (K:=bJ K) hk h.hi h.hn h.hg h.hk (λs w2 m n d=>?_);have a:oh U w2:=hv.on (j.trans (m.mono (λk _ o q=>o (l k q))));refine(d.td (show i<(bJ K).T.length from h.hi) a.us a.mi a.fo h.hr h.hp (by have:=h.pl;omega) h.Rl rc.num g).m ?_;rintro e w' (⟨c,t,h1,rfl,f⟩|⟨f',u,v,h1,_⟩)
 ·rw[show jK (bJ K).f (bJ K).n rc.num R pc=jK K.f K.n rc.num R pc from rfl,b] at h1;injection h1 with h1
  injection h1 with h1 r
  subst h1 r;exact⟨rfl,d.quiet f,f.f⟩
 rw[show jK (bJ K).f (bJ K).n rc.num R pc=jK K.f K.n rc.num R pc from rfl,b] at h1;cases h1
end
theorem xQ.plain(h:xQ K i rc R pc)(hk:aq U w kb mb sb pb qb bb tb D ks G K)(hv:oh U w)(a:∃p,jL K.f K.n rc.num pc 4 0=.ok p/\oX (dec (bM K.f p:Nat)).op)(b:jK K.f K.n rc.num R pc=.ok (K.f,R',lB))(c:KE=ba (bJ K) i {K.T[i]'h.hi with rg:=iH R',pc:=(lB:Int)}):Zk 12 #[M kb] w λe w'=>∃v,Zr e v/\aq U w' kb mb sb pb qb bb tb D ks G KE/\Zn U w w':=by
 rw[c];exact ae3 hk h.hi h.hN h.hn h.hf h.h1 (h.af8 hv a b)
theorem xQ.stop(h:xQ K i rc R pc)(hk:aq U w kb mb sb pb qb bb tb D ks G K)(hv:oh U w)(a:∃p,jL K.f K.n rc.num pc 4 0=.ok p/\oX (dec (bM K.f p:Nat)).op)(b:jK K.f K.n rc.num R pc=.error (3,tv))(hg:aI K.bs K.es ((K.T[i]'h.hi).num,2)=(lv,11))(c:KE=gj (bJ K) i 0):Zk 12 #[M kb] w λe w'=>∃v,Zr e v/\aq U w' kb mb sb pb qb bb tb D ks G KE/\Zn U w w':=by
 rw[c];exact ae1 hk h.hi h.hN h.hn h.hf h.h1 (h.VE hv a b) (λV wv d=>aev d (show i<(bJ K).T.length from h.hi) h.hn h.hf hg true 3 tv)
section
variable {c:Nat}
theorem xQ.call(h:xQ K i rc R pc)(hk:aq U w kb mb sb pb qb bb tb D ks G K)(hv:oh U w)(c:∃p,jL K.f K.n rc.num pc 4 0=.ok p/\oX (dec (bM K.f p:Nat)).op)(o:jK K.f K.n rc.num R pc=.error (8,0))(a:KP=ba (bJ K) i {K.T[i]'h.hi with pc:=((pc+4:Nat):Int)})(q:K.c=4094)(r:K.L.length=8)(s:K.ci=List.replicate 8 [])(t:K.co=List.replicate 8 [])(n:Int)(f:FuncId)(u:(R 17:Int)=n)(hn:(n=3/\f=154)\/(n=4/\f=155)\/(n=7/\f=158))(hw:∀V wv,aq V wv kb mb sb pb qb bb tb D ks G KP->Zk f #[M kb,.pointer (some ⟨G (K.T[i]'h.hi).num,0,none⟩)] wv λx w'=>x=.returned (O 0)/\aq V w' kb mb sb pb qb bb tb D ks G KE/\Zn V wv w')(d:KE.T.length=K.T.length)(k:(aw KE i).num=(K.T[i]'h.hi).num)(l:((aw KE i).st=1/\(aw KE i).rg 10=0)\/(aw KE i).st=3\/(aw KE i).st=4\/(aw KE i).st=5):Zk 12 #[M kb] w λe w'=>∃v,Zr e v/\aq U w' kb mb sb pb qb bb tb D ks G KE/\Zn U w w':=by
 have m:=d▸h.hi;rw[dQ m] at k l;refine aea hk h.hi h.hN h.hn h.hf h.h1 h.hp h.pl (h.VE hv c o) (n:=n) (λV wv B C g=>?_);rw[<-a] at g;have y:i<KP.T.length:=by rw[a,km];exact h.hi
 have b:KP.T[i]={K.T[i]'h.hi with pc:=((pc+4:Nat):Int)}:=by
  have:=(A9 (K:=bJ K) h.hi {K.T[i]'h.hi with pc:=((pc+4:Nat):Int)}).2;simp only[a];exact this
 have j:wv.cell? (E kb 54)=some (J 4094):=by
  have:=g.cc (a▸r) (a▸s) (a▸t);rwa[show KP.c=K.c by rw[a];rfl,q] at this
 have z:=aoB g y j n f (by rw[b];show(K.T[i]'h.hi).rg 17=n;rw[h.hr];exact u) hn (KE:=KE) (λA w2 c=>b▸hw A w2 c) m (b▸k) l;rwa[b] at z
end
section
variable {f:Nat->UInt8}{i:Ins}
theorem Fg(hp:jL f n root pc 4 0=.ok a)(b:dec (bM f a:Nat)=i)(c:i.op≠0):jK f n root R pc=gK f n root R pc i.op.toNat i.rd.toNat (aO R i.bQ.toNat) (aO R i.bt.toNat) i.bu:=by
 unfold jK;rw[hp];show(if (dec (bM f a:Nat)).op=0 then _ else _)=_;rw[b,if_neg c]
end
theorem ajP(h:pc+4<4294967296):m32 ((pc:Int)+4)=pc+4:=by unfold m32;omega
section
variable {f:Nat->UInt8}{i:Ins}
theorem Tj(a:i.op=1\/i.op=19\/i.op=28\/i.op=41)(e:pc % 4=0)(b:pc+4<4294967296):gK f n root R pc i.op.toNat i.rd.toNat (aO R i.bQ.toNat) (aO R i.bt.toNat) i.bu=.ok (f,jm i R,pc+4):=by
 unfold jm;generalize aO R i.bQ.toNat=x;generalize aO R i.bt.toNat=y;generalize i.rd.toNat=rd;generalize i.bu=im;have g:(pc+4) % 4=0:=Z;rcases a with h|h|h|h
 all_goals
  rw[h];have c:∀o:Nat,o≠3->o≠4->(o<5\/10<o)->Dq o x y im pc=pc+4:=λo h1 d j=>by
   unfold Dq;rw[if_neg h1,if_neg d,if_neg (λh=>Z),ajP b]
  unfold gK;rw[if_neg I,if_neg I,if_neg I,if_neg I];unfold Bm;rw[c _ I I I,if_neg Z];rfl
end
section
variable {f:Nat->UInt8}
theorem anB(a:pc % 4=0)(b:48<=pc/\pc<4294967296):gK f n root R pc 3 0 (aO R 0) (aO R 0) (-48)=.ok (f,R,pc - 48):=by
 unfold gK;rw[if_neg I,if_neg I,if_neg I,if_neg I];unfold Bm;have e:Dq 3 (aO R 0) (aO R 0) (-48) pc=pc - 48:=by
  unfold Dq;rw[if_pos rfl];unfold m32;omega
 rw[e,if_neg Z];rfl
end
def Cy:Nat->Int
 |0=>0
 |c+1=>((100+c:Nat):Int)
def DQ(P:Pm):Nat->Nat->Ins
 |0,p=>jJ p
 |c+1,p=>pS (P.Q c) p
section
variable {m:Sm}
def MD(P:Pm):Nat->Nat
 |0=>20
 |c+1=>17*(P.Q c).m+1
end
section
variable {f:Nat->UInt8}{i:Ins}
structure Env(P:Pm)(K:Kn):Prop where
 cap:∀i,i<=P.k->∃c c1 s,O4 K.bs K.es (aD i) c c1 s/\c1.num=0/\c1.bh=Cy i
 cod:∀i,i<=P.k->∃rc,aI K.bs K.es (aD i,1)=(rc,0)/\rc.kind=4/\∀p,p<MD P i->∃a,jL K.f K.n rc.num (4096+4*p) 4 0=.ok a/\dec (bM K.f a:Nat)=DQ P i p
 flt:∀i,i<=P.k->aI K.bs K.es (aD i,2)=(lv,11)
 c:K.c=4094
 L:K.L.length=8
 ci:K.ci=List.replicate 8 []
 co:K.co=List.replicate 8 []
end
section
variable {f:Nat->UInt8}
theorem Env.of(h:Env P K0)(hf:Fx K0 K):Env P K:=⟨hf.bs▸hf.es▸h.cap,by rw[hf.bs,hf.es,hf.f,hf.n];exact h.cod,hf.bs▸hf.es▸h.flt,hf.c.trans h.c,hf.L▸h.L,hf.ci.trans h.ci,hf.co.trans h.co⟩
end
section
variable {j:Nat->Nat}{st:Nat->Int}{m:Sm}{i:Ins}
theorem KI.da(h:KI P K0 K j st q m){i:Nat}(hi:i<=P.k):Go.Proofs.YtdjlkahbpdoemaaGreatDoor.da K.T (aD i)=some i:=by
 have a:i<K.T.length:=by rw[h.len];omega
 cases hf:Go.Proofs.YtdjlkahbpdoemaaGreatDoor.da K.T (aD i) with
 |none=>
  have:=jQ (show dL _ _ 0=none from hf) K.T[i] (List.getElem_mem a);rw[<-dQ a,(h.num hi).1] at this;simp at this
 |some x=>
  have⟨b,hn⟩:=Dr hf;have c:x<=P.k:=by rw[h.len] at b;omega
  rw[<-dQ b,(h.num c).1] at hn;rw[IB hn]
end
section
variable {i:Ins}
theorem DD(a:j0 P){i:Nat}(hi:i<=P.k):af (aD i)/\aD i≠ -1:=by
 have:=a.k;unfold af aD;omega
end
section
variable {j:Nat->Nat}{st:Nat->Int}{m:Sm}{f:Nat->UInt8}{i:Ins}
theorem KI.FD(h:KI P K0 K j st q m)(d:j0 P)(e:Env P K0){i:Nat}(hi:i<=P.k)(hN:nC K=aD i)(hr:(aw K i).rg=iH R)(hp:(aw K i).pc=(pc:Int))(pl:pc+4<4294967296)(Rl:∀x,R x<4294967296):∃rc,xQ K i rc R pc/\∀p,p<MD P i->∃a,jL K.f K.n rc.num (4096+4*p) 4 0=.ok a/\dec (bM K.f a:Nat)=DQ P i p:=by
 have c:i<K.T.length:=by rw[h.len];omega
 have⟨rc,h1,f,g⟩:=(e.of h.fx).cod i hi;have b:K.T[i].num=aD i:=by rw[<-dQ c];exact(h.num hi).1
 have⟨i1,i2⟩:=DD d hi;rw[dQ c] at hr hp;exact⟨rc,⟨c,b▸hN,b▸i1,b▸h.da hi,b▸i2,b▸h1,f,hr,hp,pl,λx _=>Rl x⟩,g⟩
end
theorem ajs:∀k:Nat,k<=7->NW k&&&127=127:=by
 intro k hk;have:k=0\/k=1\/k=2\/k=3\/k=4\/k=5\/k=6\/k=7:=Z;rcases this with rfl|rfl|rfl|rfl|rfl|rfl|rfl|rfl<;>decide
theorem TL(x):x&&&127=x % 128:=Nat.and_two_pow_sub_one_eq_mod x 7
theorem anq{op:Int}{x:Nat}(h:oR op % 128≠x % 128):fits op (x:Int)=false:=by
 cases hf:fits op (x:Int) with
 |false=>rfl
 |true=>
  exfalso;unfold fits at hf;have e:x&&&NW (kindOf op)=oR op:=by
   have:=beq_iff_eq.1 hf;rwa[Int.toNat_natCast] at this
  refine h ?_;rw[<-e,<-TL,<-TL,Nat.and_assoc,ajs _ (FP op)]
theorem aaT:∀(d n:Nat) (op x:Int),(∀j:Nat,j<d->fits (op+j) x=false)->oe (n+d) op x=oe n (op+d) x
 |0,n,op,x,h=>by simp
 |d+1,n,op,x,h=>by
  have a:=h 0 Z;rw[show op+((0:Nat):Int)=op from Z] at a
  rw[<-Nat.add_assoc,aaU _ _ _ a,aaT d n (op+1) x (λj b=>by
   have:=h (j+1) Z;rw[show op+((j+1:Nat):Int)=op+1+(j:Int) from Z] at this
   exact this)]
  rw[show op+((d+1:Nat):Int)=op+1+(d:Int) from Z]
theorem ao1(r n:Nat)(hr:r<32)(hn:n<4294967296):dec (bT ⟨1,r,0,0,gq n⟩)=⟨1,r,0,0,gq n⟩/\0<=bT ⟨1,r,0,0,gq n⟩/\bT ⟨1,r,0,0,gq n⟩<4294967296:=by
 have hb:=aa7 n hn;generalize gq n=im at hb;have e:bT ⟨1,r,0,0,im⟩=((55+r*128+(im % 4294967296 % 1048576).toNat*4096:Nat):Int):=by
  show(55:Int)+((r:Int) % 32*128+0+0)+im % 4294967296 % 1048576*4096=_;omega
 rw[e];refine⟨?_,Z,Z⟩;have⟨x,a⟩:=Ze (55+r*128+(im % 4294967296 % 1048576).toNat*4096);rw[<-a];have hf:fits 1 (x:Int)=true:=by
  show(((x:Int).toNat&&&127)==55)=true;rw[Int.toNat_natCast,TL,show x % 128=55 from Z];rfl
 unfold dec;rw[Ti 47 1 _ hf];show(⟨1,(x:Int)/128 % 32,0,0,(x:Int)/4096 - (x:Int)/2147483648*1048576⟩:Ins)=_;rw[show(x:Int)/128 % 32=r from Z,show(x:Int)/4096 - (x:Int)/2147483648*1048576=im from Z]
theorem aps(x)(h1:x % 128=19)(g:x/4096 % 8=0):x&&&28799=19:=by
 have e:x=(x/32768)*2^15+(x % 32768):=Z;have h:x % 32768<2^15:=Z;have d:x&&&28799=(x % 32768)&&&28799:=by
  have:=Nat.and_mod_two_pow (a:=x) (b:=28799) (n:=15);rwa[Nat.mod_eq_of_lt (show x&&&28799<2^15 from Nat.lt_of_le_of_lt Nat.and_le_right I),show 28799 % 2^15=28799 from I] at this
 have f:x % 32768=(x % 4096/128)*128+19:=Z;have c:x % 4096/128<32:=Z;rw[d,f];generalize x % 4096/128=y at c;have:∀y:Fin 32,(y.val*128+19)&&&28799=19:=I;exact this ⟨y,c⟩
theorem ao3(r n:Nat)(hr:r<32):dec (bT ⟨19,r,r,0,fi n⟩)=⟨19,r,r,0,fi n⟩/\0<=bT ⟨19,r,r,0,fi n⟩/\bT ⟨19,r,r,0,fi n⟩<4294967296:=by
 have hb:=XU n;generalize fi n=im at hb;have e:bT ⟨19,r,r,0,im⟩=((19+r*128+r*32768+(im % 4294967296 % 4096).toNat*1048576:Nat):Int):=by
  show(19:Int)+((r:Int) % 32*128+(r:Int) % 32*32768+0)+im % 4294967296 % 4096*1048576=_;omega
 rw[e];refine⟨?_,Z,Z⟩;have⟨x,a⟩:=Ze (19+r*128+r*32768+(im % 4294967296 % 4096).toNat*1048576);rw[<-a];have⟨t,ht⟩:=Ze ((im % 4294967296 % 4096).toNat);have m:(t<2048/\im=t)\/(2048<=t/\t<4096/\im=(t:Int) - 4096):=Z;rw[<-ht] at a;have c:∀s:Nat,s<32->x=19+r*128+s*32768+t*1048576->x % 128=19/\x/4096 % 8=0/\x/128 % 32=r/\x/32768 % 32=s/\x/1048576=t:=λs hs h=>by
  have h1:x/128=r+s*256+t*8192:=Z;have o:x/32768=s+t*32:=Z;have p:x/4096=s*8+t*256:=Z;omega
 have⟨hm,d,dn,q,u⟩:=c r hr a;have f:t<4096:=Z;have v:x/2147483648=t/2048:=Z;have hf:fits 19 (x:Int)=true:=by
  show(((x:Int).toNat&&&28799)==19)=true;rw[Int.toNat_natCast,aps x hm d];rfl
 have b:=λ(j:Nat)(g:j<18)=>anq (by
  rw[hm];have:∀j:Fin 18,oR (1+((j.val:Nat):Int)) % 128≠19:=I;exact this ⟨j,g⟩)
 unfold dec;rw[show(48:Nat)=30+18 from rfl,aaT 18 30 1 x b,show(1:Int)+((18:Nat):Int)=19 from rfl,Ti 29 19 _ hf];show(⟨19,(x:Int)/128 % 32,(x:Int)/32768 % 32,0,(x:Int)/1048576 - (x:Int)/2147483648*4096⟩:Ins)=_;have i:(x:Int)/128 % 32=(r:Int):=Z;have a2:(x:Int)/32768 % 32=(r:Int):=Z;have a3:(x:Int)/1048576 - (x:Int)/2147483648*4096=im:=by
  have k:(x:Int)/1048576=(t:Int):=Z;have l:(x:Int)/2147483648=(t:Int)/2048:=Z;rw[k,l];omega
 rw[i,a2,a3]
end Go.Proofs.YtdjlkahbpdoemaaGreatDoor

import Derived.Test.YtdjlkahbpdoemaaGreatDoorCq25
import Derived.Test.YtdjlkahbpdoemaaGreatDoorCq27
import Derived.Deep.RegionWith
import Derived.Lib.CountLaws
import Derived.Lib.Split
import Derived.Maps.AppendAt
import Derived.StringKeys
set_option maxRecDepth 100000
set_option maxHeartbeats 8000000
set_option linter.unusedVariables false
set_option linter.unusedSimpArgs false
open Go Go.Vx Go.Proofs.Tryz Go.ChangeShapes Go.WideShapes Go.ChangeAt Go.RowKit
variable {a:Act}{K:Act->World->Prop}{ops:Array Oper}{D:DataW Unit}{R:Ending->World->Prop}{Q:Exit->Act->World->Prop}{mx:Int}{aW ts:List (Z2)}{acc:List (cM×Nat)}{xs:List Value}{bc:List cM}{B N b c' cb k' mb n pb rb sb size:Nat}{DF:Nat->DataW Unit}{nF:Nat->Nat}{cF:Nat->Z2}{o:Oper}{p':Option Addr}{P:Program}{Z4:Prop}{e:TypeId}{w w' w4 wa:Z0}{S:Z1}{bs:Z2}{v:Z3}
namespace Go.Proofs.YtdjlkahbpdoemaaGreatDoor
section
open Go.Vx (lz iP kindOf oR ins fj Dh fits dec Ins bT)
theorem aoN(i:Ins)(c:1<=i.op)(h1:i.op<=48)(w:Z0)(a:dX w):
  Zk 412 #[fj i] w λe w'=>Zr e (J (bT i))/\Below w.heap.size w w':=by
 have g:=a.1;have h:=(a.2 i.op Z h1).1;have j:=(a.2 i.op Z h1).2;have hk:(0:Int)<=(kindOf i.op:Int):=Z;have k:=FP i.op;have b:(kindOf i.op:Int)<=7:=Z;have d:0<=i.bu % 4294967296:=Z;have f:i.bu % 4294967296<4294967296:=Z;unfold fj;go_enter func412,ntmps412;go_wp2;go_quiet ((first|(go_at_call 332;exact Calls.quiet_of_same (Qc _ hk b _))|(go_at_call 333;exact Calls.quiet_of_same (VI _ _ hk b d f _))));go_wp2;go_ret;refine⟨kJ (UT i c h1),?_⟩;exact below_drewN (((Below.refl _ _).alloc (Nat.le_refl _) _).alloc (by simp) _) _
theorem anK(i:Ins)(c:1<=i.op)(h1:i.op<=48)(j:dec (bT i)=i)(w:Z0)(d:dX w):
  Zk 411 #[fj i] w λe w'=>Zr e (.tuple #[J (bT i),O 0])/\Below w.heap.size w w':=by
 have f:=d.1;have g:=Y d;have⟨k,l⟩:=adg i c h1;have h:Hid (fj i=.agg #[O i.op,O i.rd,O i.bQ,O i.bt,O i.bu]):=rfl;rw[h.j];go_enter func411,ntmps411;go_wp2_with fail;rw[<-h.j];refine(aoN i c h1 _ (g.j.below f ((Below.refl _ _).alloc (Nat.le_refl _) _))).m ?_;rintro e w1 ⟨rfl,a⟩;have q:w.heap.size+1<=w1.heap.size:=by have:=a.size;simpa using this
 have r:=λo=>a.cell (p:=E w.heap.size o) (by simp);have m:w.heap.size<w1.heap.size:=Z;go_wp2_with fail;go_region_with (go_at_call 229;refine(ab3 _ k l w1.drew (Y (g.j.below f (((Below.refl _ _).alloc (Nat.le_refl _) _).trans (a.mono (by simp))))).j).m ?_;rintro e w2 ⟨rfl,b⟩;rw[(Y j).j];unfold fj;have s:=λo=>b.cell (p:=E w.heap.size o) m;have n:=show Hid _ from b;clear b);all_goals
  go_wp2;go_ret2;exact⟨rfl,(Y (((Below.refl _ _).alloc (Nat.le_refl _) _).trans (a.mono (by simp)))).j.drew.trans (n.j.mono (by show w.heap.size<=w1.heap.size;omega))⟩
end
section
open Go.Maps
open Go.Vx (cj H Ins fj cM dP oy eu bT dec)
theorem NX(i:Ins)(b:1<=i.op)(h1:i.op<=48)(c:dec (bT i)=i)(w:Z0)(d:dX w):
  Zk 410 #[fj i] w λe w'=>Zr e (.int .u32 (bT i))/\Zq w w':=by
 have a:Hid (fj i=.agg #[.int .i64 i.op,.int .i64 i.rd,.int .i64 i.bQ,.int .i64 i.bt,.int .i64 i.bu]):=rfl;rw[a.j];go_enter func410,ntmps410;go_wp2_with fail;rw[<-a.j];refine(anK i b h1 (Y c).j _ ((Y d).j.only ((H.refl (λ_=>False) _).alloc _) id)).m ?_;rintro e w1 ⟨rfl,f⟩;have H1:Hid (Zq w w1):=by
  exact((H.refl (λ_=>False) w).alloc _).trans (H.zS (S:=λ_=>False) f (λk hk hb=>Z))
 go_wp2;go_ret;exact⟨rfl,H1.j⟩
def Oo(w':Z0)(v:Z3)(x:Int)(N:Nat):Prop:=∃g,v=Zs g 1 1/\N<=g/\g<w'.heap.size/\w'.cell? (E g 0)=some (.int .u32 x)
theorem ao5(n:Nat)(hn:n<4294967296)(at':Int)(m:Z3)(w:Z0):
  Zk 406 #[.agg #[.int .i64 n],.int .i64 at',m] w λe w'=>∃v,Zr e v/\Oo w' v n w.heap.size/\Zq w w':=by
 have h1:¬(n:Int)< -2147483648:=Z;have a:¬(4294967295:Int)<(n:Int):=Z;go_enter func406,ntmps406;go_wp2;go_ret;refine⟨_,rfl,⟨w.heap.size+1,rfl,Z,by simp,by simp[go_sem]⟩,((H.refl _ w).alloc _).alloc _⟩
theorem aiL(at':Int)(m:Z3)(w:Z0):
  Zk 403 #[.agg #[],.int .i64 at',m] w λe w'=>Zr e (.slice none 0 0)/\Zq w w':=by
 go_enter func403,ntmps403;go_wp2;go_ret;exact⟨rfl,(H.refl _ w).alloc _⟩
theorem alu(i:Ins)(f:1<=i.op)(h1:i.op<=48)(g:dec (bT i)=i)(at':Int)(m:Z3)(w:Z0)(h:dX w):
  Zk 414 #[qz i [],.int .i64 at',m] w λe w'=>∃v,Zr e v/\Oo w' v (bT i) w.heap.size/\Zq w w':=by
 have j:=Y h;have k:=Y g;have l:Hid (fj i=.agg #[.int .i64 i.op,.int .i64 i.rd,.int .i64 i.bQ,.int .i64 i.bt,.int .i64 i.bu]):=rfl;unfold qz;go_enter func414,ntmps414;go_wp2_with fail;rw[<-l.j];have a:∀S:Z1,∀b c,H S w ((w.alloc b).alloc c):=λS b c=>((H.refl S w).alloc _).alloc _;refine(NX i f h1 k.j _ (j.j.only (a (λ_=>False) _ _) id)).m ?_;rintro e w1 ⟨rfl,d⟩;have n:w.heap.size+2<=w1.heap.size:=by have:=d.size;simp at this;omega
 have H1:=Y ((a _ _ _).trans d);go_wp2;go_ret;refine⟨_,rfl,⟨w1.heap.size,rfl,Z,by simp,by simp[go_sem]⟩,H1.j.alloc _⟩
theorem Q1:Keyed prog 9:=string_keyed underlying9
theorem UG(w:Z0):(zeroValue 3).run prog w=.ok (.int .i64 0) w:=Zx
def qS(w:Z0)(mb n:Nat)(D:DataW Unit):Prop:=w.ownsMap prog 9 (plainElem prog 3) mb n D
theorem qS.only(h:qS w mb n D)(a:H S w w')(b:¬S mb):qS w' mb n D:=by
 have⟨es,clock,hb,F,hs,c⟩:=h;exact⟨es,clock,(a.block mb h.lt b).trans hb,F,hs,c⟩
theorem als(i:Ins)(c:UInt8)(l:Z2)(K:l.length<=20000)(r:1<=i.op)(h1:i.op<=48)(at' worth:Int)(s:0<=at')(t:at'<=1000000)(N:0<=worth)(P:worth<=1000000)
  (mb n:Nat) (D:DataW Unit) (g:Maps.has D (.string (c::l))=true) (h:D.atKey (.string (c::l)) (.lit (.int .i64 0))=.lit (.int .i64 worth))
  (d:dec (bT {i with bu:=worth - at'})={i with bu:=worth - at'}) (w:Z0) (k:dX w) (m:qS w mb n D):
  Zk 414 #[qz i (c::l),.int .i64 at',.map (some mb)] w λe w'=>∃v,Zr e v/\Oo w' v (bT {i with bu:=worth - at'}) w.heap.size/\Zq w w':=by
 have⟨j,a⟩:∃j:Ins,{i with bu:=worth - at'}=j:=⟨_,rfl⟩;rw[a] at d|-;have u:Hid (dX w):=k;have x:Hid (dec (bT j)=j):=d;have y:Hid (fj j=.agg #[.int .i64 i.op,.int .i64 i.rd,.int .i64 i.bQ,.int .i64 i.bt,.int .i64 (worth - at')]):=by rw[<-a];rfl
 have z:1<=j.op:=by rw[<-a];exact r
 have A:j.op<=48:=by rw[<-a];exact h1
 have B:=Y m;have C:=Y g;have F:=Y h;have e1:(c::l==[])=false:=rfl;have Q:(c::l !=[])=true:=rfl;have G:keyOf prog 9 (.string ⟨(c::l).toArray⟩)=some (.string (c::l)):=Go.WideMaps.keyOf_string_mk underlying9 (by unfold maxLen;simp[ByteArray.size];omega);clear k d a m g h;unfold qz;go_enter func414,ntmps414;have b:∀S:Z1,∀o p,H S w ((w.alloc o).alloc p):=λS o p=>((H.refl S w).alloc _).alloc _
 go_wp2_with (at_lookup;refine wpList_lookup_own_ok_int _ rfl _ _ 121 rfl 9 3 .i64 Q1 underlying121 underlying3 (UG _) mb n D rfl (B.j.only (b (λ_=>False) _ _) id) _ _ rfl G ?_;intro cc q R;rw[C.j];rw[F.j] at q;obtain rfl:worth=cc:=by simpa using q);rw[<-y.j];refine(NX j z A x.j _ (u.j.only (b (λ_=>False) _ _) id)).m ?_;rintro e w1 ⟨rfl,f⟩;have T:w.heap.size+2<=w1.heap.size:=by have:=f.size;simp at this;omega
 have H1:Hid (Zq w w1):=(b _ _ _).trans f;clear f b
 go_wp2
 go_ret;refine⟨_,rfl,⟨w1.heap.size,rfl,Z,by simp,by simp[go_sem]⟩,H1.j.alloc _⟩
end
end Go.Proofs.YtdjlkahbpdoemaaGreatDoor
namespace Go.Vx
theorem PH(hg:o.guard=none)(s x:Operand)(t:TypeId)(f:o.op=Op.call {callee:=Callee.builtin Builtin.append,args:=#[s,x],argTypes:=#[t,t]})(base:Nat)(e:TypeId)(i:TypeInfo)(z:Z3)(size bytes:Nat)(h1:P.underlying t=some (.slice e))(g:P.info? e=some i)(h:i.zero=some z)(k:i.size=size)(l:i.bytes=bytes)(p:z.cells.size=size)(q:0<size)(v:Z3)(n:Nat)(xs:List Value)(hs:a.eval s=v)(r:w.ownsRow base e size v n xs)(d:Addr)(m c:Nat)(news:List Value)(y:a.eval x=.slice (some d) m c)(hn:news.length=m*size)(A:∀j u,news[j]?=some u->w.cell? (d.add j)=some u)(B:∀u∈news,u.oneCell'=true)(C:n+m<=maxLen)(D:(n+m)*bytes<=140737488355328)(hb:base<=w.heap.size)(F:∀b w',w'.ownsRow base e size b (n+m) (xs++news)->w.grownBy w' v.ownBlock->(b.ownBlock=v.ownBlock\/b.ownBlock=some w.heap.size)->K (a.put o.dst b) w'):
  if Region.wanted o (yielded ops a.tmps)=true then Oper.wp P o a w K Q else Z4:=by
 have hw:Region.wanted o (yielded ops a.tmps)=true:=by simp[Region.wanted,hg]
 rw[if_pos hw];have⟨b,w',G,r1,r2,_,r3⟩:=run_append_own_at (P:=P) w base t o.type e i z size bytes h1 g h k l p q v n xs r d m c news hn A B C D hb;unfold Oper.wp;simp[execOp,f,resolve,invoke,builtin,hs,y,G,Result.andThen];exact F b w' r1 r2 r3
end Go.Vx
namespace Go.Proofs.YtdjlkahbpdoemaaGreatDoor
section
open Go.Maps
open Go.Vx (cj gP H Ins fj cM dP oy eu bT dec)
theorem apb(b:Nat)(ts:List (Z2))(l:ts.length<=30000)(h:∀t,ts[1]?=some t->t≠[58])(w:Z0)(hr:aY w b ts):
  Zk 76 #[M b] w λe w'=>Zr e (.bool false)/\w'=w:=by
 obtain⟨hb,v,m,hf,p,n,c,rfl,hn,q,h1⟩:=hr;by_cases r:1<n
 ·have a:1<ts.length:=Z;rcases h1 with h1|⟨g,o,rfl,hg,d⟩
  ·rw[h1] at a;simp at a
  have f:=d 1 a;have⟨t,ht⟩:∃t,ts[1]=t:=⟨_,rfl⟩;rw[ht] at f;have i:=h t (ht▸List.getElem?_eq_getElem a);have e1:(t==[58])=false:=by simp[i]
  have j:(1:Int)<(n:Int):=Z;have k:0<=(1:Int)/\(1:Int)<(n:Int):=Z;unfold cj at f;clear d ht hn h i;go_enter func76,ntmps76;go_wp2;go_ret;exact⟨rfl,rfl⟩
 have j:¬(1:Int)<(n:Int):=Z;go_enter func76,ntmps76;go_wp2;go_ret;exact⟨rfl,rfl⟩
theorem apa(b:Nat)(t:Z2)(ts:List (Z2))(w:Z0)(hr:aY w b (t::[58]::ts)):
  Zk 76 #[M b] w λe w'=>Zr e (.bool true)/\w'=w:=by
 obtain⟨hb,v,h,hf,p,n,c,rfl,hn,i,h1⟩:=hr;rcases h1 with h1|⟨g,o,rfl,hg,a⟩
 ·cases h1
 have j:w.cell? (E g (o+1))=some (.string ⟨#[58]⟩):=a 1 (by simp);have d:(1:Int)<(n:Int):=by rw[hn];simp;omega
 have f:0<=(1:Int)/\(1:Int)<(n:Int):=⟨Z,d⟩;clear a hn;go_enter func76,ntmps76;go_wp2;go_ret;exact⟨rfl,rfl⟩
theorem akl(b:Nat)(c:UInt8)(l:Z2)(hlen:l.length<=20000)(hn:gP (c::l)=true)(ts:List (Z2))(h:ts.length<=30)(w:Z0)(hr:aY w b ((c::l)::[58]::ts)):
  Zk 78 #[M b] w λe w'=>Zr e (.string ⟨(c::l).toArray⟩)/\aY w' b ts/\H (λk=>k=b) w w':=by
 go_enter func78,ntmps78;go_wp2_with fail;refine(DE b _ _ (by simp;omega) _ (Y hr).j).m ?_;rintro e w1 ⟨rfl,dM,a⟩;have H1:Hid (aY w1 b ([58]::ts)/\H (λk=>k=b) w w1):=⟨dM,a⟩;unfold cj;go_wp2_with fail;refine(Q6 c l hlen _).m ?_;rintro e w2 ⟨rfl,rfl⟩;rw[(Y hn).j];go_wp2_with fail;refine(IE b [58] ts Z _ H1.j.1).m ?_;rintro e w3 ⟨rfl,d,f⟩;have g:Hid (aY w3 b ts/\H (λk=>k=b) w w3):=⟨d,H1.j.2.trans f⟩;go_wp2;go_ret;exact⟨rfl,g.j⟩
theorem apt(pb mb n:Nat)(D:DataW Unit)(hn:n<1000)(c:UInt8)(l:Z2)(hlen:l.length<=20000)(g:Maps.has D (.string (c::l))=false)(L:Int)(u:0<=L)(h1:L<=1000000)(w:Z0)(d:qS w mb n D)
  (v:w.cell? (E pb 1)=some (.map (some mb))) (x:w.cell? (E pb 2)=some (.int .i64 L)):
  Zk 77 #[M pb,.string ⟨(c::l).toArray⟩] w λe w'=>Zr e (.tuple #[])/\qS w' mb (n+1) (D.put (.string (c::l)) (.lit (.int .i64 L)))/\H (λk=>k=mb) w w':=by
 have j:=Y d;have m:=Y g;have i:keyOf prog 9 (.string ⟨(c::l).toArray⟩)=some (.string (c::l)):=Go.WideMaps.keyOf_string_mk underlying9 (by unfold maxLen;simp[ByteArray.size];omega)
 have b:∀a:Z0,a.heap=w.heap->qS a mb n D:=λa hv=>by
  obtain⟨es,clock,hb,F,hs,o⟩:=d;exact⟨es,clock,by rw[hv];exact hb,F,hs,o⟩
 have f:Hid (∀a:Z0,a.heap=w.heap->qS a mb n D):=b;clear d g b;go_enter func77,ntmps77;go_wp2_with (at_lookup;refine wpList_lookup_own_ok_int _ rfl _ _ 121 rfl 9 3 .i64 Q1 underlying121 underlying3 (UG _) mb n D rfl j.j _ _ rfl i ?_;intro cc p q;rw[m.j]);obtain⟨w',y,r1,r2⟩:=(f.j w.drew rfl).update (t:=121) (e:=3) Q1 underlying121 (by unfold maxLen;omega) (val:=.int .i64 L) i (plainElem_int underlying3 (WalkArith.wf_i64 Z));have r:Hid (qS w' mb (n+1) (D.put (.string (c::l)) (.lit (.int .i64 L)))):=r1
 have s:Hid (H (λk=>k=mb) w w'):=by
  have h:H (λk=>k=mb) w.drew w':=H.Ix r2 (λk hk=>(Option.some.inj hk).symm);exact⟨h.os,h.tape,h.output,h.size,h.block⟩
 clear r1 r2 p q
 go_region
 go_wp2_with fail
 first|go_end0|refine bodyPost_ret (results_none rfl _ _ _) rfl ?_
 exact⟨rfl,r.j,s.j⟩
end
section
open Go.Maps
open Go.Vx (cj gP H Ins fj cM dP oy eu bT dec bU)
def nH(x:cM×Nat):List Value:=[l8 x.1,O (x.2:Int)]
structure fS(w:Z0)(pb mb base:Nat)(acc:List (cM×Nat))(n:Nat)(D:DataW Unit)(L:Nat):Prop where
 mJ:pb<base
 Bz:mb<base
 ne:pb≠mb
 og:base<=w.heap.size
 lines:∃p k c,w.cell? (E pb 0)=some (.slice p k c)/\w.ownsRow base 192 2 (.slice p k c) acc.length (acc.flatMap nH)
 c1:w.cell? (E pb 1)=some (.map (some mb))
 c2:w.cell? (E pb 2)=some (O (L:Int))
 fz:∀o,w.frozen? (E pb o)=false
 map:qS w mb n D
def bS(pb mb:Nat)(w:Z0)(b:Nat):Prop:=b=pb\/b=mb\/∃v,w.cell? (E pb 0)=some v/\v.ownBlock=some b
theorem Fk{base:Nat}(h:w.ownsRow base e size v n xs):∃p k c,v=.slice p k c:=by
 rcases h.2 with⟨rfl,_⟩|⟨g,cap,cur,rfl,_⟩
 ·exact⟨_,_,_,rfl⟩
 exact⟨_,_,_,rfl⟩
theorem Du{base:Nat}(h:w.ownsRow base e size v n xs)(a:H S w w')(c:∀b,v.ownBlock=some b->¬S b):w'.ownsRow base e size v n xs:=by
 refine⟨h.1,?_⟩;rcases h.2 with hn|⟨g,cap,cur,rfl,hb,d,rest⟩
 ·exact .inl hn
 refine .inr ⟨g,cap,cur,rfl,hb,?_,rest⟩;rwa[a.block g (Array.getElem?_eq_some_iff.1 d).1 (c g rfl)]
theorem fS.only{base:Nat}{L:Nat}(h:fS w pb mb base acc n D L)(a:H S w w')(e:∀b,bS pb mb w b->¬S b):fS w' pb mb base acc n D L/\∀b,bS pb mb w' b↔bS pb mb w b:=by
 have f:pb<w.heap.size:=Nat.lt_of_lt_of_le h.mJ h.og;have g:=e pb (Or.inl rfl);have d:=λo=>a.cell (p:=E pb o) f g;have⟨p,k,c,i,hr⟩:=h.lines;refine⟨⟨h.mJ,h.Bz,h.ne,Nat.le_trans h.og a.size,⟨p,k,c,by rw[d];exact i,Du hr a (λb hb=>e b (Or.inr (Or.inr ⟨_,i,hb⟩)))⟩,by rw[d];exact h.c1,by rw[d];exact h.c2,λo=>by rw[a.frozen (p:=E pb o) f g];exact h.fz o,h.map.only a (e mb (Or.inr (Or.inl rfl)))⟩,λb=>?_⟩;unfold bS;rw[d]
theorem fS.iu{base:Nat}{L:Nat}(h:fS w pb mb base acc n D L)(b:Nat)(hb:bS pb mb w b):b<w.heap.size/\(b=pb\/b=mb\/base<=b):=by
 have hs:=h.og;have h1:=h.mJ;have e:=h.Bz;rcases hb with rfl|rfl|⟨v,hv,a⟩
 ·exact⟨Z,Or.inl rfl⟩
 ·exact⟨Z,Or.inr (Or.inl rfl)⟩
 have⟨p,k,c,d,hr⟩:=h.lines;rw[d] at hv;obtain rfl:=Option.some.inj hv;have:=hr.lt b a;exact⟨this.2,Or.inr (Or.inr this.1)⟩
theorem fS.VZ{base:Nat}{L:Nat}(h:fS w pb mb base acc n D L)(a:Nat)(v:Int)(hv:v=(a:Int)):fS (w.setCell (E pb 2) (O v)) pb mb base acc n D a/\∀b,bS pb mb (w.setCell (E pb 2) (O v)) b↔bS pb mb w b:=by
 subst hv;have i:=h.mJ;have d:H (λx=>x=pb) w (w.setCell (E pb 2) (O (a:Int))):=H.setCell (S:=λx=>x=pb) (H.refl _ _) (p:=E pb 2) (Or.inl rfl) _;have⟨p,k,c,g,hr⟩:=h.lines;have f:(w.setCell (E pb 2) (O (a:Int))).cell? (E pb 0)=w.cell? (E pb 0):=other (by simp);refine⟨⟨h.mJ,h.Bz,h.ne,by rw[size_set];exact h.og,⟨p,k,c,by rw[f];exact g,Du hr d (λb hb e=>by have:=(hr.lt b hb).1;omega)⟩,by rw[other (by simp)];exact h.c1,same h.c2,λo=>AE _ _ _ _ (h.fz o),h.map.only d (λe=>h.ne e.symm)⟩,λb=>?_⟩;unfold bS;rw[f]
theorem fS.grow{base:Nat}{L:Nat}(h:fS w pb mb base acc n D L)(x:cM×Nat){p:Option Addr}{k c:Nat}(a:w.cell? (E pb 0)=some (.slice p k c))(ha:Zq w wa)(hg:wa.grownBy w4 (Value.slice p k c).ownBlock)(l:w4.ownsRow base 192 2 (.slice p' k' c') (acc.length+1) (acc.flatMap nH++nH x))(t:(Value.slice p' k' c').ownBlock=(Value.slice p k c).ownBlock\/(Value.slice p' k' c').ownBlock=some wa.heap.size):
  w4.cell? (E pb 0)=some (.slice p k c)/\(∀o,w4.frozen? (E pb o)=false)/\fS (w4.setCell (E pb 0) (.slice p' k' c')) pb mb base (acc++[x]) n D L/\H (bS pb mb w) w (w4.setCell (E pb 0) (.slice p' k' c'))/\∀b,bS pb mb (w4.setCell (E pb 0) (.slice p' k' c')) b->bS pb mb w b\/w.heap.size<=b:=by
 have⟨u,y,c0,m,hr⟩:=h.lines;rw[a] at m;obtain⟨rfl,rfl,rfl⟩:p=u/\k=y/\c=c0:=by simpa using m
 have z:=h.mJ;have A:=h.Bz;have B:=h.og;have q:=h.ne;have r:=λb(hb:(Value.slice p k c).ownBlock=some b)=>(hr.lt b hb).1;have g4:=(ha.mono λ_ _ h=>h.elim).trans (H.Ix hg (λk hk=>hk));have s:¬(Value.slice p k c).ownBlock=some pb:=λe=>by have:=r pb e;omega
 have f:¬(Value.slice p k c).ownBlock=some mb:=λe=>by have:=r mb e;omega
 have g:=λo=>g4.cell (p:=E pb o) (by show pb<_;omega) s;have hf:∀o,w4.frozen? (E pb o)=false:=λo=>by rw[g4.frozen (p:=E pb o) (by show pb<_;omega) s];exact h.fz o
 have i:H (λx=>x=pb) w4 (w4.setCell (E pb 0) (.slice p' k' c')):=H.setCell (S:=λx=>x=pb) (H.refl _ _) (p:=E pb 0) (Or.inl rfl) _;have C:=g4.size;have j:w4.cell? (E pb 0)=some (.slice p k c):=by rw[g];exact a
 refine⟨j,hf,⟨h.mJ,h.Bz,q,by rw[size_set];omega,⟨p',k',c',same j,?_⟩,by rw[other (by simp),g];exact h.c1,by rw[other (by simp),g];exact h.c2,λo=>AE _ _ _ _ (hf o),(h.map.only g4 f).only i (λe=>q e.symm)⟩,?_,λb hb=>?_⟩
 ·have:=Du l i (λb hb e=>by have:=(l.lt b hb).1;omega);simpa using this
 ·refine(H.trans (S:=bS pb mb w) (g4.mono λb _ hb=>Or.inr (Or.inr ⟨_,a,hb⟩)) (i.mono λb _ hb=>?_));exact Or.inl hb
 rcases hb with hb|hb|⟨v,hv,d⟩
 ·exact Or.inl (Or.inl hb)
 ·exact Or.inl (Or.inr (Or.inl hb))
 rw[same j] at hv;obtain rfl:=Option.some.inj hv;rcases t with e|e
 ·rw[e] at d;exact Or.inl (Or.inr (Or.inr ⟨_,a,d⟩))
 rw[e] at d;obtain rfl:=Option.some.inj d;exact Or.inr ha.size
theorem W0{base:Nat}(h:w.ownsRow base 9 1 v ts.length (ts.map cj))(b:w.heap.size<=B):CH w B v ts:=by
 rcases h.2 with⟨rfl,hn⟩|⟨g,cap,cur,rfl,hb,a,c,_,f,d⟩
 ·exact⟨_,_,_,rfl,hn.symm,Nat.le_refl _,Or.inl (List.length_eq_zero_iff.1 hn)⟩
 refine⟨_,_,_,rfl,rfl,c,Or.inr ⟨g,0,rfl,Nat.lt_of_lt_of_le (Array.getElem?_eq_some_iff.1 a).1 b,λj e=>?_⟩⟩;have h1:(cur.toList.take (ts.length*1))[j]?=some (cj ts[j]):=by
  rw[d,List.getElem?_map,List.getElem?_eq_getElem e];rfl
 rw[List.getElem?_take,if_pos Z,Array.getElem?_toList] at h1;rw[Nat.zero_add];unfold World.cell?;simp only[a];exact h1
theorem X1(w:Z0):Zk 402 #[.agg #[]] w λe w'=>Zr e (O 0)/\w'=w.alloc (.cells #[] 261):=by
 go_enter func402,ntmps402;go_wp2;go_ret;exact⟨rfl,rfl⟩
theorem X4(x:Int)(w:Z0):Zk 405 #[.agg #[O x]] w λe w'=>Zr e (O 4)/\w'=w.alloc (.cells #[O x] 328):=by
 go_enter func405,ntmps405;go_wp2;go_ret;exact⟨rfl,rfl⟩
theorem X2(x y:Int)(w:Z0):Zk 408 #[.agg #[O x,O y]] w λe w'=>Zr e (O 8)/\w'=w.alloc (.cells #[O x,O y] 330):=by
 go_enter func408,ntmps408;go_wp2;go_ret;exact⟨rfl,rfl⟩
theorem X3(i:Ins)(ak:Z2)(w:Z0):Zk 413 #[qz i ak] w λe w'=>Zr e (O 4)/\w'=w.alloc (.cells #[O i.op,O i.rd,O i.bQ,O i.bt,O i.bu,.string ⟨ak.toArray⟩] 332):=by
 unfold qz;go_enter func413,ntmps413;go_wp2;go_ret;exact⟨rfl,rfl⟩
theorem Yr:(prog.info? 192).map (λi=>(i.zero,i.size,i.bytes))=some (some (.agg #[.nilIface,O 0]),2,24):=Zx
theorem agG(src:Z2)(kQ:src.length<=20000)(cr:(35:UInt8)∉src)(s:cM)(hs:oy s)(fM:bU src=dP s)(B5:∀t,(dP s)[1]?=some t->t≠[58])(hlen:(dP s).length<=30)
  (mx:Int) (pb mb base:Nat) (acc:List (cM×Nat)) (n:Nat) (D:DataW Unit) (L:Nat) (hL:L<=1000000) (aa:acc.length<=30000) (w:Z0) (hm:kC mx w) (hp:fS w pb mb base acc n D L):
  Zk 29 #[M pb,.string ⟨src.toArray⟩] w λe w'=>Zr e (.tuple #[])/\fS w' pb mb base (acc++[(s,L)]) n D (L+eu s)/\H (bS pb mb w) w w'/\∀b,b<w.heap.size->bS pb mb w' b->bS pb mb w b:=by
 have P:Hid (fS w pb mb base acc n D L):=hp;have HM:Hid (kC mx w):=hm;have wg:Hid ((35:UInt8)∉src):=cr;have oY:Hid (bU src=dP s):=fM;have fp:Hid (∀t,(dP s)[1]?=some t->t≠[58]):=B5;have ZJ:pb<w.heap.size:=Nat.lt_of_lt_of_le hp.mJ hp.og;have dh:Hid (oy s):=hs;obtain⟨tid,a,yO⟩:∃tid a,l8 s=.iface tid a:=by cases s using Vx.cM.cs<;>exact⟨_,_,rfl⟩
 have V:Hid (l8 s=.iface tid a):=yO;clear hp hm cr fM B5 hs yO;go_enter func29,ntmps29;go_wp2_with fail;refine(Vd src kQ wg.j mx _ HM.j).m ?_;rintro e w1 ⟨⟨v,rfl,Q⟩,F⟩;rw[oY.j] at Q;obtain⟨W,X,vc,rfl⟩:=Fk Q;have Y4:w.heap.size<=w1.heap.size:=F.size;have b8:Hid (∀S:Z1,H S w w1):=λS=>H.zS F (λk hk hb=>Z)
 have kX:Hid (CH w1 w1.heap.size (.slice W X vc) (dP s)):=W0 Q (Nat.le_refl _);clear Q F;go_wp2_with fail;obtain⟨w2,q⟩:∃w2,w1.alloc (.cells #[.slice W X vc] 187)=w2:=⟨_,rfl⟩
 have qA:w2.heap.size=w1.heap.size+1:=by rw[<-q];simp
 have R:Hid (∀S:Z1,H S w w2):=λS=>by rw[<-q];exact(b8.j S).alloc _
 have pX:Hid (aY w2 w1.heap.size (dP s)):=by
  refine⟨Z,.slice W X vc,by rw[<-q];simp[go_sem],by rw[<-q];exact World.frozen?_alloc_new _ _ _ _,?_⟩;refine kX.j.only (S:=λ_=>False) ?_ (Nat.le_refl _) (λ_ _ h=>h);rw[<-q];exact(H.refl _ _).alloc _
 rw[q];have dE:w2.cell? (E pb 2)=some (O (L:Int)):=by rw[(R.j (λ_=>False)).cell (p:=E pb 2) ZJ id];exact P.j.c2
 have Jg:¬pb=w2.heap.size:=Z
 have EP:Hid (∀c,Zq w2 c->Zk 79 #[M w1.heap.size] c λe w3=>Zr e (.iface tid a)/\H (λx=>x=w1.heap.size) c w3/\H (λx=>x=w1.heap.size) w2 w3/\c.heap.size<=w3.heap.size/\w3.cell? (E pb 2)=some (O (L:Int))/\∀o,(w3.alloc o).cell? (E pb 2)=some (O (L:Int))):=by
  intro c ho;have hr:=pX.j.only ho (λ_ _ h=>h);have bV:=VF w1.heap.size s dh.j c hr;rw[V.j] at bV;refine bV.m ?_;rintro e w3 ⟨rfl,_,aA⟩;have z:H (λx=>x=w1.heap.size) w2 w3:=(ho.mono λ_ _ h=>h.elim).trans aA;have I9:pb<w2.heap.size:=Z;have RL:pb<w3.heap.size:=Nat.lt_of_lt_of_le I9 z.size;have h1:w3.cell? (E pb 2)=some (O (L:Int)):=by rw[z.cell (p:=E pb 2) I9 (by show¬pb=_;omega)];exact dE
  refine⟨rfl,aA,z,aA.size,h1,λo=>?_⟩;rw[((H.refl (λ_=>False) w3).alloc o).cell (p:=E pb 2) RL id];exact h1
 have KV:Hid (Zk 79 #[M w1.heap.size] w2.drew λe w3=>Zr e (.iface tid a)/\H (λx=>x=w1.heap.size) w2 w3/\w2.heap.size<=w3.heap.size/\w3.cell? (E pb 2)=some (O (L:Int))/\∀o,(w3.alloc o).cell? (E pb 2)=some (O (L:Int))):=by
  refine(EP.j w2.drew (H.refl _ w2).drew).m ?_;rintro e w3 ⟨rfl,_,d,h3,h4,h5⟩;exact⟨rfl,d,h3,h4,h5⟩
 have CS:Hid (Zk 79 #[M w1.heap.size] (w2.alloc (.cells #[.nilIface,O 0] 192)).drew λe w3=>Zr e (.iface tid a)/\H (λx=>x=w1.heap.size) w2 w3/\w2.heap.size+1<=w3.heap.size/\w3.cell? (E pb 2)=some (O (L:Int))/\w3.cell? ⟨w1.heap.size+1,0,none⟩=some .nilIface/\w3.cell? ⟨w1.heap.size+1,1,none⟩=some (O 0)/\∀o,w3.frozen? ⟨w1.heap.size+1,o,none⟩=false):=by
  refine(EP.j _ ((H.refl _ w2).alloc _).drew).m ?_;rintro e w3 ⟨rfl,h1,d,h3,h4,h5⟩;have al:w2.heap.size<((w2.alloc (.cells #[.nilIface,O 0] 192)).drew).heap.size:=by show w2.heap.size<(w2.alloc (.cells #[.nilIface,O 0] 192)).heap.size;simp
  have xu:¬w2.heap.size=w1.heap.size:=Z;refine⟨rfl,d,by have:((w2.alloc (.cells #[.nilIface,O 0] 192)).drew).heap.size=w2.heap.size+1:=(by show(w2.alloc (.cells #[.nilIface,O 0] 192)).heap.size=_;simp);omega,h4,?_,?_,λo=>?_⟩<;>rw[<-qA]
  ·rw[h1.cell (p:=E w2.heap.size 0) al xu];simp[go_sem]
  ·rw[h1.cell (p:=E w2.heap.size 1) al xu];simp[go_sem]
  rw[h1.frozen (p:=E w2.heap.size o) al xu];simp[go_sem]
 have Ej:∀o,(w2.alloc o).cell? (E pb 2)=some (O (L:Int)):=λo=>by
  rw[((H.refl (λ_=>False) w2).alloc o).cell (p:=E pb 2) (by show pb<_;omega) id];exact dE
 clear q kX;refine(apb w1.heap.size _ Z fp.j _ pX.j).m ?_;rintro e w' ⟨rfl,rfl⟩;go_wp2_with fail;go_cut [5] from 13 to 18 (λp5 g=>∃lb,p5=M lb/\Hid (H (λx=>x=w1.heap.size) w' g)/\w'.heap.size<=lb/\lb<g.heap.size/\g.cell? (E lb 0)=some (.iface tid a)/\g.cell? (E lb 1)=some (O (L:Int)))
 case first=>
  go_region_with (first|(go_at_call 79;refine KV.j.m ?_;rintro e w3 ⟨rfl,z,F7,SD,ab⟩)|(go_at_call 79;refine CS.j.m ?_;rintro e w3 ⟨rfl,z,F7,SD,oN,fQ,ad⟩))
  all_goals (go_wp2_with fail;go_meet)
  all_goals first
   |exact⟨w3.heap.size,rfl,z.alloc _,F7,by simp,by show _=_;simp[go_sem],by show _=_;simp[go_sem]⟩
   |exact⟨w1.heap.size+1,rfl,H.setCell (S:=λx=>x=w1.heap.size) (H.setCell (S:=λx=>x=w1.heap.size) z (p:=⟨w1.heap.size+1,0,none⟩) (Or.inr (by show w'.heap.size<=w1.heap.size+1;omega)) _) (p:=⟨w1.heap.size+1,1,none⟩) (Or.inr (by show w'.heap.size<=w1.heap.size+1;omega)) _,Z,by rw[size_set,size_set];omega,by show _=_;rw[other (by simp)];exact same oN,same (by rw[other (by simp)];exact fQ)⟩
 case rest=>
  obtain⟨wd,oI⟩:=Ze (wc);subst oI;obtain⟨lb,rfl,CU,kr,Sa,R9,ae⟩:=hcut;obtain⟨G,RM⟩:=P.j.only (S:=λx=>x=w1.heap.size) ((R.j _).trans CU.j) (λb hb e=>by have:=(P.j.iu b hb).1;omega);have eV:Hid (fS wd pb mb base acc n D L):=G;have ET:Hid (∀b,bS pb mb wd b↔bS pb mb w b):=RM;have u7:Hid (H (λx=>w.heap.size<=x) w wd):=(R.j _).trans (CU.j.mono λb _ e=>Z);obtain⟨l,m,lc,Eh,gS⟩:=G.lines;have ag:=G.fz 0;have ah:=G.og;obtain⟨i0,hi,px,el,jy⟩:=info_parts Yr;have RS:¬pb=wd.heap.size:=by have:=G.mJ;omega
  have AW:Hid (∀w4 A,((wd.alloc (.cells #[.iface tid a,O (L:Int)] 192)).drew).grownBy w4 (Value.slice l m lc).ownBlock->w4.ownsRow base 192 2 A (acc.length+1) (acc.flatMap nH++[.iface tid a,O (L:Int)])->(A.ownBlock=(Value.slice l m lc).ownBlock\/A.ownBlock=some ((wd.alloc (.cells #[.iface tid a,O (L:Int)] 192)).drew).heap.size)->∃p' k' c',A=.slice p' k' c'/\w4.cell? (E pb 0)=some (.slice l m lc)/\(∀o,w4.frozen? (E pb o)=false)/\Hid (fS (w4.setCell (E pb 0) (.slice p' k' c')) pb mb base (acc++[(s,L)]) n D L/\H (bS pb mb wd) wd (w4.setCell (E pb 0) (.slice p' k' c'))/\∀b,bS pb mb (w4.setCell (E pb 0) (.slice p' k' c')) b->bS pb mb wd b\/wd.heap.size<=b)/\Hid (wd.heap.size+1<=w4.heap.size)/\w4.cell? (E lb 0)=some (.iface tid a)):=by
   intro w4 A hg K D7;obtain⟨p',k',c',rfl⟩:=Fk K;have kq:nH (s,L)=[.iface tid a,O (L:Int)]:=by unfold nH;rw[V.j]
   rw[<-kq] at K;obtain⟨g1,g2,g3,g4,g5⟩:=eV.j.grow (s,L) Eh (((H.refl _ wd).alloc _).drew) hg K D7
   have Ry:wd.heap.size+1<=w4.heap.size:=by
    have h1:=hg.size;have d:((wd.alloc (.cells #[.iface tid a,O (L:Int)] 192)).drew).heap.size=wd.heap.size+1:=by show(wd.alloc (.cells #[.iface tid a,O (L:Int)] 192)).heap.size=_;simp
    omega
   have jT:¬(Value.slice l m lc).ownBlock=some lb:=λe=>by
    have h1:=(ET.j lb).1 (Or.inr (Or.inr ⟨_,Eh,e⟩));have:=(P.j.iu lb h1).1;omega
   have gl:H (λx=>(Value.slice l m lc).ownBlock=some x) wd w4:=(((H.refl _ wd).alloc _).drew).trans (H.Ix hg (λk hk=>hk));exact⟨p',k',c',rfl,g1,g2,⟨g3,g4,g5⟩,Ry,by rw[gl.cell (p:=E lb 0) Sa jT];exact R9⟩
  have A1:Hid (((wd.alloc (.cells #[.iface tid a,O (L:Int)] 192)).drew).ownsRow base 192 2 (.slice l m lc) acc.length (acc.flatMap nH)):=(gS.alloc _).drew
  have A2:Hid (∀(j:Nat) (u:Z3),([Value.iface tid a,O (L:Int)])[j]?=some u->((wd.alloc (.cells #[.iface tid a,O (L:Int)] 192)).drew).cell? (((E wd.heap.size 0):Addr).add j)=some u):=by
   intro j u B
   match j,B with
   |0,B=>simp at B;subst B;simp[Addr.add,go_sem]
   |1,B=>simp at B;subst B;simp[Addr.add,go_sem]
  have A3:Hid (∀u∈([Value.iface tid a,O (L:Int)]),u.oneCell'=true):=by
   intro u hu;simp at hu;rcases hu with rfl|rfl<;>rfl
  have T:Hid (acc.length+1<=maxLen/\(acc.length+1)*24<=140737488355328/\base<=((wd.alloc (.cells #[.iface tid a,O (L:Int)] 192)).drew).heap.size):=by
   refine⟨by unfold maxLen;omega,Z,?_⟩;show base<=(wd.alloc (.cells #[.iface tid a,O (L:Int)] 192)).heap.size;simp;omega
  clear gS
  have an:∀o,(wd.alloc o).cell? (E pb 0)=some (.slice l m lc):=λo=>by
   rw[((H.refl (λ_=>False) wd).alloc o).cell (p:=E pb 0) (by have:=eV.j.mJ;show pb<_;omega) id];exact Eh
  go_wp2_with fail;go_cut [] from 19 to 28 (λg=>Hid (fS g pb mb base (acc++[(s,L)]) n D L/\H (bS pb mb wd) wd g/\∀b,bS pb mb g b->bS pb mb wd b\/wd.heap.size<=b)/\g.cell? (E lb 0)=some (.iface tid a))
  case first=>
   go_region_law (refine PH rfl (.tmp 23) (.tmp 25) 122 rfl base 192 i0 (.agg #[.nilIface,O 0]) 2 24 underlying122 hi px el jy rfl I (.slice l m lc) acc.length (acc.flatMap nH) (by simp[Act.eval]) A1.j (E wd.heap.size 0) 1 1 [.iface tid a,O (L:Int)] (by simp[Act.eval]) rfl A2.j A3.j T.j.1 T.j.2.1 T.j.2.2 ?_;intro A w4 K vO Jk;obtain⟨p',k',c',rfl,fv,gW,Lu,ao,Sw⟩:=AW.j w4 A vO K Jk)
   all_goals (go_wp2_with fail;go_meet)
   all_goals exact⟨Lu,by rw[other (by simp<;>omega)];exact Sw⟩
  case rest=>
   obtain⟨N,yS⟩:=hcut;have xE:=N.j.1.c2;have Sz:=N.j.1.fz 2;have xl:pb<wc.heap.size:=by have h1:=N.j.1.mJ;have d:=N.j.1.og;omega
   have ar:∀o,(wc.alloc o).cell? (E pb 2)=some (O (L:Int)):=λo=>by
    rw[((H.refl (λ_=>False) wc).alloc o).cell (p:=E pb 2) xl id];exact xE
   have av:∀o,(wc.alloc o).frozen? (E pb 2)=false:=λo=>by
    rw[((H.refl (λ_=>False) wc).alloc o).frozen (p:=E pb 2) xl id];exact Sz
   have U:Hid (∀(o:Obj) (v:Int),v=(L:Int)+(eu s:Int)->fS ((wc.setCell (E pb 2) (O v)).alloc o).drew pb mb base (acc++[(s,L)]) n D (L+eu s)/\H (bS pb mb w) w ((wc.setCell (E pb 2) (O v)).alloc o).drew/\∀b,b<w.heap.size->bS pb mb ((wc.setCell (E pb 2) (O v)).alloc o).drew b->bS pb mb w b):=by
    intro o v hv;obtain⟨g1,g2,g3⟩:=N.j;obtain⟨p1,o1⟩:=g1.VZ (L+eu s) v Z;obtain⟨p2,o2⟩:=p1.only (S:=λ_=>False) (((H.refl _ (wc.setCell (E pb 2) (O v))).alloc o).drew) (λ_ _ h=>h);have F:=u7.j;refine⟨p2,?_,λb hb h=>?_⟩
    ·have a1:H (λx=>bS pb mb w x\/w.heap.size<=x) w wd:=F.mono λ_ _ h=>Or.inr h
     have a2:H (λx=>bS pb mb w x\/w.heap.size<=x) wd wc:=g2.mono λb _ h=>Or.inl ((ET.j b).1 h)
     have a3:H (λx=>bS pb mb w x\/w.heap.size<=x) wc ((wc.setCell (E pb 2) (O v)).alloc o).drew:=((H.setCell (S:=λx=>bS pb mb w x\/w.heap.size<=x) (H.refl _ wc) (p:=E pb 2) (Or.inl (Or.inl (Or.inl rfl))) _).alloc o).drew
     exact((a1.trans a2).trans a3).mono λb hb h=>by
      rcases h with h|h
      ·exact h
      omega
    rcases g3 b ((o1 b).1 ((o2 b).1 h)) with h1|h1
    ·exact(ET.j b).1 h1
    have:=F.size;omega
   have kx:(tid=261/\a=.agg #[]/\eu s=0)\/(tid=328/\(∃x:Int,a=.agg #[O x])/\eu s=4)\/(tid=332/\(∃(i:Ins) (ak:Z2),a=qz i ak)/\eu s=4)\/(tid=330/\(∃x y:Int,a=.agg #[O x,O y])/\eu s=8):=by
    have h:=V.j
    cases s using Vx.cM.cs with
    |no=>obtain⟨h1,d⟩:=Value.iface.inj h;exact Or.inl ⟨h1.symm,d.symm,rfl⟩
    |word n=>obtain⟨h1,d⟩:=Value.iface.inj h;exact Or.inr (Or.inl ⟨h1.symm,⟨_,d.symm⟩,rfl⟩)
    |ins i ak=>obtain⟨h1,d⟩:=Value.iface.inj h;exact Or.inr (Or.inr (Or.inl ⟨h1.symm,⟨_,_,d.symm⟩,rfl⟩))
    |li r v=>obtain⟨h1,d⟩:=Value.iface.inj h;exact Or.inr (Or.inr (Or.inr ⟨h1.symm,⟨_,_,d.symm⟩,rfl⟩))
   clear AW A1 A2 A3 T KV CS EP eV pX R b8;rcases kx with⟨rfl,rfl,f⟩|⟨rfl,⟨x,rfl⟩,f⟩|⟨rfl,⟨i,ak,rfl⟩,f⟩|⟨rfl,⟨x,y,rfl⟩,f⟩
   ·have C:Hid (eu s=0):=f;clear f;have cT : ∀ c, (method 623 261 (.agg #[]) "vault/asm.length").run prog c = .ok (402, .agg #[]) c := fun _ => Zx
    go_wp2_with fail
    go_region_with (go_at_call 402;refine(X1 _).m ?_;rintro e w6 ⟨rfl,rfl⟩)
    all_goals go_wp2_with fail
    all_goals first|go_end0|refine bodyPost_ret (results_none rfl _ _ _) rfl ?_
    all_goals exact⟨rfl,U.j _ _ (by rw[IntKind.wrap_i64,C.j];omega)⟩
   ·have C:Hid (eu s=4):=f;clear f;have cT : ∀ c, (method 623 328 (.agg #[.int .i64 x]) "vault/asm.length").run prog c = .ok (405, .agg #[.int .i64 x]) c := fun _ => Zx
    go_wp2_with fail
    go_region_with (go_at_call 405;refine(X4 x _).m ?_;rintro e w6 ⟨rfl,rfl⟩)
    all_goals go_wp2_with fail
    all_goals first|go_end0|refine bodyPost_ret (results_none rfl _ _ _) rfl ?_
    all_goals exact⟨rfl,U.j _ _ (by rw[IntKind.wrap_i64,C.j];omega)⟩
   ·have C:Hid (eu s=4):=f;clear f;have cT : ∀ c, (method 623 332 (.agg #[.int .i64 i.op, .int .i64 i.rd, .int .i64 i.bQ, .int .i64 i.bt, .int .i64 i.bu, .string ⟨ak.toArray⟩]) "vault/asm.length").run prog c = .ok (413, .agg #[.int .i64 i.op, .int .i64 i.rd, .int .i64 i.bQ, .int .i64 i.bt, .int .i64 i.bu, .string ⟨ak.toArray⟩]) c := fun _ => Zx
    unfold qz at yS;go_wp2_with fail
    go_region_with (go_at_call 413;refine(X3 i ak _).m ?_;rintro e w6 ⟨rfl,rfl⟩)
    all_goals go_wp2_with fail
    all_goals first|go_end0|refine bodyPost_ret (results_none rfl _ _ _) rfl ?_
    all_goals exact⟨rfl,U.j _ _ (by rw[IntKind.wrap_i64,C.j];omega)⟩
   have C:Hid (eu s=8):=f;clear f;have cT : ∀ c, (method 623 330 (.agg #[.int .i64 x, .int .i64 y]) "vault/asm.length").run prog c = .ok (408, .agg #[.int .i64 x, .int .i64 y]) c := fun _ => Zx
   go_wp2_with fail
   go_region_with (go_at_call 408;refine(X2 x y _).m ?_;rintro e w6 ⟨rfl,rfl⟩)
   all_goals go_wp2_with fail
   all_goals first|go_end0|refine bodyPost_ret (results_none rfl _ _ _) rfl ?_
   all_goals exact⟨rfl,U.j _ _ (by rw[IntKind.wrap_i64,C.j];omega)⟩
theorem abb{g o:Nat}(a:qS w mb n D)(b:w.cell? (E g o)=some v):g≠mb:=by
 rintro rfl;have⟨es,clock,hb,_⟩:=a;simp[World.cell?,hb] at b
theorem aY.map(h:aY w b ts)(d:qS w mb n D)(a:H (λk=>k=mb) w w'):aY w' b ts:=by
 have⟨hb,v,e,hf,p,m,c,hv,hn,q,h1⟩:=h;have f:=abb d e;refine⟨Nat.lt_of_lt_of_le hb a.size,v,(a.cell (p:=E b 0) hb f)▸e,(a.frozen (p:=E b 0) hb f)▸hf,p,m,c,hv,hn,q,?_⟩;rcases h1 with h1|⟨g,o,hp,hg,i⟩
 ·exact Or.inl h1
 refine Or.inr ⟨g,o,hp,hg,λj l=>?_⟩;rw[a.cell (p:=E g (o+j)) (by show g<_;omega) (abb d (i j l))];exact i j l
theorem agH(c0:UInt8)(l0:Z2)(rJ:l0.length<=20000)(kq:gP (c0::l0)=true)(src:Z2)(kQ:src.length<=20000)(cr:(35:UInt8)∉src)(s:cM)(hs:oy s)(fM:bU src=(c0::l0)::[58]::dP s)(hlen:(dP s).length<=30)
  (mx:Int) (pb mb base:Nat) (acc:List (cM×Nat)) (n:Nat) (hn:n<1000) (D:DataW Unit) (qE:Maps.has D (.string (c0::l0))=false) (L:Nat) (hL:L<=1000000) (ae:acc.length<=30000) (w:Z0) (hm:kC mx w) (hp:fS w pb mb base acc n D L):
  Zk 29 #[M pb,.string ⟨src.toArray⟩] w λe w'=>Zr e (.tuple #[])/\fS w' pb mb base (acc++[(s,L)]) (n+1) (D.put (.string (c0::l0)) (.lit (.int .i64 (L:Int)))) (L+eu s)/\H (bS pb mb w) w w'/\∀b,b<w.heap.size->bS pb mb w' b->bS pb mb w b:=by
 have P:Hid (fS w pb mb base acc n D L):=hp;have HM:Hid (kC mx w):=hm;have wg:Hid ((35:UInt8)∉src):=cr;have oY:Hid (bU src=(c0::l0)::[58]::dP s):=fM;have j5:Hid (gP (c0::l0)=true):=kq;have aa:Hid (Maps.has D (.string (c0::l0))=false):=qE;have ZJ:pb<w.heap.size:=Nat.lt_of_lt_of_le hp.mJ hp.og;have dh:Hid (oy s):=hs;obtain⟨tid,a,yO⟩:∃tid a,l8 s=.iface tid a:=by cases s using Vx.cM.cs<;>exact⟨_,_,rfl⟩
 have qU:Hid (l8 s=.iface tid a):=yO;clear hp hm cr fM kq qE hs yO;go_enter func29,ntmps29;go_wp2_with fail;refine(Vd src kQ wg.j mx _ HM.j).m ?_;rintro e w1 ⟨⟨v,rfl,dq⟩,Q⟩;rw[oY.j] at dq;obtain⟨vp,vn,vc,rfl⟩:=Fk dq;have Y4:w.heap.size<=w1.heap.size:=Q.size;have b8:Hid (∀S:Z1,H S w w1):=λS=>H.zS Q (λk hk hb=>Z)
 have kX:Hid (CH w1 w1.heap.size (.slice vp vn vc) ((c0::l0)::[58]::dP s)):=W0 dq (Nat.le_refl _);clear dq Q;go_wp2_with fail;obtain⟨R,C⟩:∃R,w1.alloc (.cells #[.slice vp vn vc] 187)=R:=⟨_,rfl⟩
 have ab:w1.heap.size<R.heap.size:=by rw[<-C];simp
 have Uf:Hid (∀S:Z1,H S w R):=λS=>by rw[<-C];exact(b8.j S).alloc _
 have Ub:Hid (aY R w1.heap.size ((c0::l0)::[58]::dP s)):=by
  refine⟨Z,.slice vp vn vc,by rw[<-C];simp[go_sem],by rw[<-C];exact World.frozen?_alloc_new _ _ _ _,?_⟩;refine kX.j.only (S:=λ_=>False) ?_ (Nat.le_refl _) (λ_ _ h=>h);rw[<-C];exact(H.refl _ _).alloc _
 rw[C];clear C kX;refine(apa w1.heap.size _ _ _ Ub.j).m ?_;rintro e gh ⟨rfl,rfl⟩;go_wp2_with fail;refine(akl w1.heap.size c0 l0 rJ j5.j (dP s) hlen _ Ub.j).m ?_;rintro e w3 ⟨rfl,T,l⟩;obtain⟨d,U⟩:=P.j.only (S:=λx=>x=w1.heap.size) ((Uf.j _).trans l) (λb hb e=>by have:=(P.j.iu b hb).1;omega);have V:Hid (aY w3 w1.heap.size (dP s)/\H (λx=>x=w1.heap.size) gh w3/\fS w3 pb mb base acc n D L/\∀b,bS pb mb w3 b↔bS pb mb w b):=⟨T,l,d,U⟩
 clear T l d U;go_wp2_with fail;refine(apt pb mb n D hn c0 l0 rJ aa.j (L:Int) Z Z _ V.j.2.2.1.map V.j.2.2.1.c1 V.j.2.2.1.c2).m ?_;rintro e w2 ⟨rfl,W,z⟩;obtain⟨T,l,d,U⟩:=V.j;have ag:mb<w.heap.size:=Nat.lt_of_lt_of_le P.j.Bz P.j.og;have ah:w1.heap.size<w2.heap.size:=Nat.lt_of_lt_of_le ab (Nat.le_trans l.size z.size)
 have q:Hid (fS w2 pb mb base acc (n+1) (D.put (.string (c0::l0)) (.lit (.int .i64 (L:Int)))) L/\∀b,bS pb mb w2 b↔bS pb mb w b):=by
  have cY:pb<w3.heap.size:=Nat.lt_of_lt_of_le d.mJ d.og;have hc:∀o,w2.cell? (E pb o)=w3.cell? (E pb o):=λo=>z.cell (p:=E pb o) cY d.ne
  obtain⟨p,k,c,h0,hr⟩:=d.lines;refine⟨⟨d.mJ,d.Bz,d.ne,Nat.le_trans d.og z.size,⟨p,k,c,by rw[hc];exact h0,Du hr z (λb hb e=>by have:=(hr.lt b hb).1;have:=d.Bz;omega)⟩,by rw[hc];exact d.c1,by rw[hc];exact d.c2,λo=>by rw[z.frozen (p:=E pb o) cY d.ne];exact d.fz o,W⟩,λb=>?_⟩;rw[<-U b];unfold bS;rw[hc]
 have pX:Hid (aY w2 w1.heap.size (dP s)):=T.map d.map z;have aX:Hid (H (λx=>x=mb\/w.heap.size<=x) w w2):=((Uf.j _).trans (l.mono λb _ e=>Or.inr Z)).trans (z.mono λb _ e=>Or.inl e);have dE:w2.cell? (E pb 2)=some (.int .i64 (L:Int)):=q.j.1.c2;clear W z T l d U Ub Uf V
 have EP:Hid (∀f,Zq w2 f->Zk 79 #[M w1.heap.size] f λe w3=>Zr e (.iface tid a)/\H (λx=>x=w1.heap.size) f w3/\H (λx=>x=w1.heap.size) w2 w3/\f.heap.size<=w3.heap.size/\w3.cell? (E pb 2)=some (.int .i64 (L:Int))/\∀o,(w3.alloc o).cell? (E pb 2)=some (.int .i64 (L:Int))):=by
  intro f ho;have hr:=pX.j.only ho (λ_ _ h=>h);have bV:=VF w1.heap.size s dh.j f hr;rw[qU.j] at bV;refine bV.m ?_;rintro e w3 ⟨rfl,_,l⟩;have F:H (λx=>x=w1.heap.size) w2 w3:=(ho.mono λ_ _ h=>h.elim).trans l;have I9:pb<w2.heap.size:=Nat.lt_of_lt_of_le q.j.1.mJ q.j.1.og;have RL:pb<w3.heap.size:=Nat.lt_of_lt_of_le I9 F.size;have h1:w3.cell? (E pb 2)=some (.int .i64 (L:Int)):=by rw[F.cell (p:=E pb 2) I9 (by show¬pb=_;omega)];exact dE
  refine⟨rfl,l,F,l.size,h1,λo=>?_⟩;rw[((H.refl (λ_=>False) w3).alloc o).cell (p:=E pb 2) RL id];exact h1
 have KV:Hid (Zk 79 #[M w1.heap.size] w2.drew λe w3=>Zr e (.iface tid a)/\H (λx=>x=w1.heap.size) w2 w3/\w2.heap.size<=w3.heap.size/\w3.cell? (E pb 2)=some (.int .i64 (L:Int))/\∀o,(w3.alloc o).cell? (E pb 2)=some (.int .i64 (L:Int))):=by
  refine(EP.j w2.drew (H.refl _ w2).drew).m ?_;rintro e w3 ⟨rfl,_,g,h3,h4,h5⟩;exact⟨rfl,g,h3,h4,h5⟩
 have CS:Hid (Zk 79 #[M w1.heap.size] (w2.alloc (.cells #[.nilIface,.int .i64 0] 192)).drew λe w3=>Zr e (.iface tid a)/\H (λx=>x=w1.heap.size) w2 w3/\w2.heap.size+1<=w3.heap.size/\w3.cell? (E pb 2)=some (.int .i64 (L:Int))/\w3.cell? (E w2.heap.size 0)=some .nilIface/\w3.cell? (E w2.heap.size 1)=some (.int .i64 0)/\∀o,w3.frozen? (E w2.heap.size o)=false):=by
  refine(EP.j _ ((H.refl _ w2).alloc _).drew).m ?_;rintro e w3 ⟨rfl,h1,g,h3,h4,h5⟩;have al:w2.heap.size<((w2.alloc (.cells #[.nilIface,.int .i64 0] 192)).drew).heap.size:=by show w2.heap.size<(w2.alloc (.cells #[.nilIface,.int .i64 0] 192)).heap.size;simp
  have xu:¬w2.heap.size=w1.heap.size:=Z;refine⟨rfl,g,by have:((w2.alloc (.cells #[.nilIface,.int .i64 0] 192)).drew).heap.size=w2.heap.size+1:=(by show(w2.alloc (.cells #[.nilIface,.int .i64 0] 192)).heap.size=_;simp);omega,h4,?_,?_,λo=>?_⟩
  ·rw[h1.cell (p:=E w2.heap.size 0) al xu];simp[go_sem]
  ·rw[h1.cell (p:=E w2.heap.size 1) al xu];simp[go_sem]
  rw[h1.frozen (p:=E w2.heap.size o) al xu];simp[go_sem]
 have Ej:∀o,(w2.alloc o).cell? (E pb 2)=some (.int .i64 (L:Int)):=λo=>by
  rw[((H.refl (λ_=>False) w2).alloc o).cell (p:=E pb 2) (Nat.lt_of_lt_of_le q.j.1.mJ q.j.1.og) id];exact dE
 go_wp2_with fail;go_cut [5] from 13 to 18 (λp5 t=>∃lb,p5=M lb/\Hid (H (λx=>x=w1.heap.size) w2 t)/\w2.heap.size<=lb/\lb<t.heap.size/\t.cell? (E lb 0)=some (.iface tid a)/\t.cell? (E lb 1)=some (.int .i64 (L:Int)))
 case first=>
  go_region_with (first|(go_at_call 79;refine KV.j.m ?_;rintro e w3 ⟨rfl,F,F7,SD,an⟩)|(go_at_call 79;refine CS.j.m ?_;rintro e w3 ⟨rfl,F,F7,SD,oN,fQ,ao⟩))
  all_goals (go_wp2_with fail;go_meet)
  all_goals first
   |exact⟨w3.heap.size,rfl,F.alloc _,F7,by simp,by show _=_;simp[go_sem],by show _=_;simp[go_sem]⟩
   |exact⟨w2.heap.size,rfl,H.setCell (S:=λx=>x=w1.heap.size) (H.setCell (S:=λx=>x=w1.heap.size) F (p:=E w2.heap.size 0) (Or.inr (Nat.le_refl _)) _) (p:=E w2.heap.size 1) (Or.inr (Nat.le_refl _)) _,Nat.le_refl _,by rw[size_set,size_set];omega,by show _=_;rw[other (by simp)];exact same oN,same (by rw[other (by simp)];exact fQ)⟩
 case rest=>
  obtain⟨wd,oI⟩:=Ze (wc);subst oI;obtain⟨lb,rfl,CU,kr,Sa,R9,ar⟩:=hcut;obtain⟨X,ad⟩:=q.j.1.only (S:=λx=>x=w1.heap.size) CU.j (λb hb e=>by have:=(P.j.iu b ((q.j.2 b).1 hb)).1;omega);have RM:∀b,bS pb mb wd b↔bS pb mb w b:=λb=>(ad b).trans (q.j.2 b)
  have eV:Hid (fS wd pb mb base acc (n+1) (D.put (.string (c0::l0)) (.lit (.int .i64 (L:Int)))) L):=X;have ET:Hid (∀b,bS pb mb wd b↔bS pb mb w b):=RM;have u7:Hid (H (λx=>x=mb\/w.heap.size<=x) w wd):=aX.j.trans (CU.j.mono λb _ e=>Or.inr Z);obtain⟨A,B,lc,Eh,gS⟩:=X.lines;have av:=X.fz 0;have ay:=X.og;obtain⟨i0,hi,px,el,jy⟩:=info_parts Yr;have RS:¬pb=wd.heap.size:=by have:=X.mJ;omega
  have AW:Hid (∀w4 G,((wd.alloc (.cells #[.iface tid a,.int .i64 (L:Int)] 192)).drew).grownBy w4 (Value.slice A B lc).ownBlock->w4.ownsRow base 192 2 G (acc.length+1) (acc.flatMap nH++[.iface tid a,.int .i64 (L:Int)])->(G.ownBlock=(Value.slice A B lc).ownBlock\/G.ownBlock=some ((wd.alloc (.cells #[.iface tid a,.int .i64 (L:Int)] 192)).drew).heap.size)->∃p' k' c',G=.slice p' k' c'/\w4.cell? (E pb 0)=some (.slice A B lc)/\(∀o,w4.frozen? (E pb o)=false)/\Hid (fS (w4.setCell (E pb 0) (.slice p' k' c')) pb mb base (acc++[(s,L)]) (n+1) (D.put (.string (c0::l0)) (.lit (.int .i64 (L:Int)))) L/\H (bS pb mb wd) wd (w4.setCell (E pb 0) (.slice p' k' c'))/\∀b,bS pb mb (w4.setCell (E pb 0) (.slice p' k' c')) b->bS pb mb wd b\/wd.heap.size<=b)/\Hid (wd.heap.size+1<=w4.heap.size)/\w4.cell? (E lb 0)=some (.iface tid a)):=by
   intro w4 G hg jz D7;obtain⟨p',k',c',rfl⟩:=Fk jz;have kq:nH (s,L)=[.iface tid a,.int .i64 (L:Int)]:=by unfold nH;rw[qU.j]
   rw[<-kq] at jz;obtain⟨g1,g2,g3,g4,g5⟩:=eV.j.grow (s,L) Eh (((H.refl _ wd).alloc _).drew) hg jz D7
   have Ry:wd.heap.size+1<=w4.heap.size:=by
    have h1:=hg.size;have g:((wd.alloc (.cells #[.iface tid a,.int .i64 (L:Int)] 192)).drew).heap.size=wd.heap.size+1:=by show(wd.alloc (.cells #[.iface tid a,.int .i64 (L:Int)] 192)).heap.size=_;simp
    omega
   have jT:¬(Value.slice A B lc).ownBlock=some lb:=λe=>by
    have h1:=(ET.j lb).1 (Or.inr (Or.inr ⟨_,Eh,e⟩));have:=(P.j.iu lb h1).1;omega
   have gl:H (λx=>(Value.slice A B lc).ownBlock=some x) wd w4:=(((H.refl _ wd).alloc _).drew).trans (H.Ix hg (λk hk=>hk));exact⟨p',k',c',rfl,g1,g2,⟨g3,g4,g5⟩,Ry,by rw[gl.cell (p:=E lb 0) Sa jT];exact R9⟩
  have A1:Hid (((wd.alloc (.cells #[.iface tid a,.int .i64 (L:Int)] 192)).drew).ownsRow base 192 2 (.slice A B lc) acc.length (acc.flatMap nH)):=(gS.alloc _).drew
  have A2:Hid (∀(j:Nat) (u:Z3),([Value.iface tid a,.int .i64 (L:Int)])[j]?=some u->((wd.alloc (.cells #[.iface tid a,.int .i64 (L:Int)] 192)).drew).cell? (((E wd.heap.size 0):Addr).add j)=some u):=by
   intro j u K
   match j,K with
   |0,K=>simp at K;subst K;simp[Addr.add,go_sem]
   |1,K=>simp at K;subst K;simp[Addr.add,go_sem]
  have A3:Hid (∀u∈([Value.iface tid a,.int .i64 (L:Int)]),u.oneCell'=true):=by
   intro u hu;simp at hu;rcases hu with rfl|rfl<;>rfl
  have A4:Hid (acc.length+1<=maxLen/\(acc.length+1)*24<=140737488355328/\base<=((wd.alloc (.cells #[.iface tid a,.int .i64 (L:Int)] 192)).drew).heap.size):=by
   refine⟨by unfold maxLen;omega,Z,?_⟩;show base<=(wd.alloc (.cells #[.iface tid a,.int .i64 (L:Int)] 192)).heap.size;simp;omega
  clear gS
  have az:∀o,(wd.alloc o).cell? (E pb 0)=some (.slice A B lc):=λo=>by
   rw[((H.refl (λ_=>False) wd).alloc o).cell (p:=E pb 0) (by have:=eV.j.mJ;show pb<_;omega) id];exact Eh
  go_wp2_with fail;go_cut [] from 19 to 28 (λt=>Hid (fS t pb mb base (acc++[(s,L)]) (n+1) (D.put (.string (c0::l0)) (.lit (.int .i64 (L:Int)))) L/\H (bS pb mb wd) wd t/\∀b,bS pb mb t b->bS pb mb wd b\/wd.heap.size<=b)/\t.cell? (E lb 0)=some (.iface tid a))
  case first=>
   go_region_law (refine PH rfl (.tmp 23) (.tmp 25) 122 rfl base 192 i0 (.agg #[.nilIface,.int .i64 0]) 2 24 underlying122 hi px el jy rfl I (.slice A B lc) acc.length (acc.flatMap nH) (by simp[Act.eval]) A1.j (E wd.heap.size 0) 1 1 [.iface tid a,.int .i64 (L:Int)] (by simp[Act.eval]) rfl A2.j A3.j A4.j.1 A4.j.2.1 A4.j.2.2 ?_;intro G w4 jz vO Jk;obtain⟨p',k',c',rfl,fv,gW,Lu,aE,Sw⟩:=AW.j w4 G vO jz Jk)
   all_goals (go_wp2_with fail;go_meet)
   all_goals exact⟨Lu,by rw[other (by simp<;>omega)];exact Sw⟩
  case rest=>
   obtain⟨HG,yS⟩:=hcut;have xE:=HG.j.1.c2;have Sz:=HG.j.1.fz 2;have xl:pb<wc.heap.size:=by have h1:=HG.j.1.mJ;have g:=HG.j.1.og;omega
   have aG:∀o,(wc.alloc o).cell? (E pb 2)=some (.int .i64 (L:Int)):=λo=>by
    rw[((H.refl (λ_=>False) wc).alloc o).cell (p:=E pb 2) xl id];exact xE
   have aH:∀o,(wc.alloc o).frozen? (E pb 2)=false:=λo=>by
    rw[((H.refl (λ_=>False) wc).alloc o).frozen (p:=E pb 2) xl id];exact Sz
   have gz:Hid (∀(o:Obj) (v:Int),v=(L:Int)+(eu s:Int)->fS ((wc.setCell (E pb 2) (.int .i64 v)).alloc o).drew pb mb base (acc++[(s,L)]) (n+1) (D.put (.string (c0::l0)) (.lit (.int .i64 (L:Int)))) (L+eu s)/\H (bS pb mb w) w ((wc.setCell (E pb 2) (.int .i64 v)).alloc o).drew/\∀b,b<w.heap.size->bS pb mb ((wc.setCell (E pb 2) (.int .i64 v)).alloc o).drew b->bS pb mb w b):=by
    intro o v hv;obtain⟨g1,g2,g3⟩:=HG.j;obtain⟨p1,o1⟩:=g1.VZ (L+eu s) v Z;obtain⟨p2,o2⟩:=p1.only (S:=λ_=>False) (((H.refl _ (wc.setCell (E pb 2) (.int .i64 v))).alloc o).drew) (λ_ _ h=>h);have Q:=u7.j;refine⟨p2,?_,λb hb h=>?_⟩
    ·have a1:H (λx=>bS pb mb w x\/w.heap.size<=x) w wd:=Q.mono λ_ _ h=>h.elim (λe=>Or.inl (Or.inr (Or.inl e))) Or.inr
     have a2:H (λx=>bS pb mb w x\/w.heap.size<=x) wd wc:=g2.mono λb _ h=>Or.inl ((ET.j b).1 h)
     have a3:H (λx=>bS pb mb w x\/w.heap.size<=x) wc ((wc.setCell (E pb 2) (.int .i64 v)).alloc o).drew:=((H.setCell (S:=λx=>bS pb mb w x\/w.heap.size<=x) (H.refl _ wc) (p:=E pb 2) (Or.inl (Or.inl (Or.inl rfl))) _).alloc o).drew
     exact((a1.trans a2).trans a3).mono λb hb h=>by
      rcases h with h|h
      ·exact h
      omega
    rcases g3 b ((o1 b).1 ((o2 b).1 h)) with h1|h1
    ·exact(ET.j b).1 h1
    have:=Q.size;omega
   have kx:(tid=261/\a=.agg #[]/\eu s=0)\/(tid=328/\(∃x:Int,a=.agg #[.int .i64 x])/\eu s=4)\/(tid=332/\(∃(i:Ins) (ak:Z2),a=qz i ak)/\eu s=4)\/(tid=330/\(∃x y:Int,a=.agg #[.int .i64 x,.int .i64 y])/\eu s=8):=by
    have h:=qU.j
    cases s using Vx.cM.cs with
    |no=>obtain⟨h1,g⟩:=Value.iface.inj h;exact Or.inl ⟨h1.symm,g.symm,rfl⟩
    |word n=>obtain⟨h1,g⟩:=Value.iface.inj h;exact Or.inr (Or.inl ⟨h1.symm,⟨_,g.symm⟩,rfl⟩)
    |ins i ak=>obtain⟨h1,g⟩:=Value.iface.inj h;exact Or.inr (Or.inr (Or.inl ⟨h1.symm,⟨_,_,g.symm⟩,rfl⟩))
    |li r v=>obtain⟨h1,g⟩:=Value.iface.inj h;exact Or.inr (Or.inr (Or.inr ⟨h1.symm,⟨_,_,g.symm⟩,rfl⟩))
   clear AW A1 A2 A3 A4 KV CS EP eV pX aX b8 q;rcases kx with⟨rfl,rfl,m⟩|⟨rfl,⟨x,rfl⟩,m⟩|⟨rfl,⟨i,ak,rfl⟩,m⟩|⟨rfl,⟨x,y,rfl⟩,m⟩
   ·have N:Hid (eu s=0):=m;clear m;have cT : ∀ f, (method 623 261 (.agg #[]) "vault/asm.length").run prog f = .ok (402, .agg #[]) f := fun _ => Zx
    go_wp2_with fail
    go_region_with (go_at_call 402;refine(X1 _).m ?_;rintro e w6 ⟨rfl,rfl⟩)
    all_goals go_wp2_with fail
    all_goals first|go_end0|refine bodyPost_ret (results_none rfl _ _ _) rfl ?_
    all_goals exact⟨rfl,gz.j _ _ (by rw[IntKind.wrap_i64,N.j];omega)⟩
   ·have N:Hid (eu s=4):=m;clear m;have cT : ∀ f, (method 623 328 (.agg #[.int .i64 x]) "vault/asm.length").run prog f = .ok (405, .agg #[.int .i64 x]) f := fun _ => Zx
    go_wp2_with fail
    go_region_with (go_at_call 405;refine(X4 x _).m ?_;rintro e w6 ⟨rfl,rfl⟩)
    all_goals go_wp2_with fail
    all_goals first|go_end0|refine bodyPost_ret (results_none rfl _ _ _) rfl ?_
    all_goals exact⟨rfl,gz.j _ _ (by rw[IntKind.wrap_i64,N.j];omega)⟩
   ·have N:Hid (eu s=4):=m;clear m;have cT : ∀ f, (method 623 332 (.agg #[.int .i64 i.op, .int .i64 i.rd, .int .i64 i.bQ, .int .i64 i.bt, .int .i64 i.bu, .string ⟨ak.toArray⟩]) "vault/asm.length").run prog f = .ok (413, .agg #[.int .i64 i.op, .int .i64 i.rd, .int .i64 i.bQ, .int .i64 i.bt, .int .i64 i.bu, .string ⟨ak.toArray⟩]) f := fun _ => Zx
    unfold qz at yS;go_wp2_with fail
    go_region_with (go_at_call 413;refine(X3 i ak _).m ?_;rintro e w6 ⟨rfl,rfl⟩)
    all_goals go_wp2_with fail
    all_goals first|go_end0|refine bodyPost_ret (results_none rfl _ _ _) rfl ?_
    all_goals exact⟨rfl,gz.j _ _ (by rw[IntKind.wrap_i64,N.j];omega)⟩
   have N:Hid (eu s=8):=m;clear m;have cT : ∀ f, (method 623 330 (.agg #[.int .i64 x, .int .i64 y]) "vault/asm.length").run prog f = .ok (408, .agg #[.int .i64 x, .int .i64 y]) f := fun _ => Zx
   go_wp2_with fail
   go_region_with (go_at_call 408;refine(X2 x y _).m ?_;rintro e w6 ⟨rfl,rfl⟩)
   all_goals go_wp2_with fail
   all_goals first|go_end0|refine bodyPost_ret (results_none rfl _ _ _) rfl ?_
   all_goals exact⟨rfl,gz.j _ _ (by rw[IntKind.wrap_i64,N.j];omega)⟩
end
section
open Go.Maps
open Go.Vx (cj H Ins fj cM dP oy eu bT dec)
theorem acY(n:Nat)(hn:n<4294967296)(w:Z0):Zk 407 #[O n] w λe w'=>Zr e (J n)/\w'=w:=by
 have h1:¬(n:Int)< -2147483648:=Z;have a:¬(4294967295:Int)<(n:Int):=Z;have b:IntKind.u32.wrap (n:Int)=n:=by rw[IntKind.wrap_u32];omega
 go_enter func407,ntmps407;go_wp2;go_ret;exact⟨rfl,rfl⟩
theorem ajR(n:Nat)(hn:n<4294967296):wrap32 ((n:Int)*1048576 % 4294967296)/1048576=fi n:=by
 unfold fi wrap32;omega
theorem amx(n:Nat)(hn:n<4294967296):wrap32 (((n:Int) - fi n) % 4294967296)/4096=gq n:=by
 unfold gq;generalize he:(n:Int) - fi n=d;have a: -2047<=d/\d<=4294967296/\d % 4096=0:=by
  rw[<-he];unfold fi;omega
 have b:0<=d:=Z;unfold wrap32;split<;>split<;>omega
theorem ajW(r n:Nat)(hr:r<32)(hn:n<4294967296)(h1:dec (bT ⟨1,r,0,0,gq n⟩)=⟨1,r,0,0,gq n⟩)(A:dec (bT ⟨19,r,r,0,fi n⟩)=⟨19,r,r,0,fi n⟩)(at':Int)(m:Z3)(w:Z0)(t:dX w):
  Zk 409 #[.agg #[O r,O n],O at',m] w λe w'=>∃g,Zr e (Zs g 2 2)/\g<w'.heap.size/\w'.cell? (E g 0)=some (J (bT ⟨1,r,0,0,gq n⟩))/\w'.cell? (E g 1)=some (J (bT ⟨19,r,r,0,fi n⟩))/\Zq w w':=by
 have c:=Y (acY n hn);have⟨B,u⟩:∃x,x=bT ⟨1,r,0,0,gq n⟩:=⟨_,rfl⟩;obtain⟨C,y⟩:∃x,x=bT ⟨19,r,r,0,fi n⟩:=⟨_,rfl⟩
 rw[<-u,<-y];have z:=Y (And.intro u y);clear u y;go_enter func409,ntmps409;go_wp2_with (go_at_call 407;refine(c.j _).m ?_;rintro e a ⟨rfl,rfl⟩);go_upto_region 4 with fail
 rw[ajR n hn,amx n hn];obtain⟨w1,d⟩:=Ze (w.alloc (.cells #[O r,O n] 330));obtain⟨lb,o⟩:=Ze (w.heap.size);have q:=Za d;have D:w1.cell? (E lb 0)=some (O r):=by rw[d,o,World.cell?_alloc_new];rfl
 have F:lb<w1.heap.size:=by rw[d,o];simp
 rw[<-d,<-o];have s:Hid (∀a,Zq w1 a->Zc a lb 0 (O r)):=λa h=>(h.cell (p:=E lb 0) F id).trans D
 have T:Hid (∀a,Zq w1 a->Zk 410 #[.agg #[O 1,O r,O 0,O 0,O (gq n)]] a λe w'=>Zr e (J B)/\Hid (Zq w1 w')):=λa h=>(NX ⟨1,r,0,0,gq n⟩ (by show(1:Int)<=1;decide) (by show(1:Int)<=48;decide) h1 a (t.only (q.trans h) id)).mono (λe w' f=>⟨by rw[z.j.1];exact f.1,h.trans f.2⟩)
 have U:Hid (∀a,Zq w1 a->Zk 410 #[.agg #[O 19,O r,O r,O 0,O (fi n)]] a λe w'=>Zr e (J C)/\Hid (Zq w1 w')):=λa h=>(NX ⟨19,r,r,0,fi n⟩ (by show(1:Int)<=19;decide) (by show(19:Int)<=48;decide) A a (t.only (q.trans h) id)).mono (λe w' f=>⟨by rw[z.j.2];exact f.1,h.trans f.2⟩)
 have G:IntKind.i64.wrap (fi n)=fi n:=by have:=XU n;rw[IntKind.wrap_i64];omega
 have N:IntKind.i64.wrap (gq n)=gq n:=by have:=aa7 n hn;rw[IntKind.wrap_i64];omega
 have V:=Y q;have P:Hid (Zq w1 w1.drew):=(H.refl _ w1).drew;have b:=Y (s.j _ P.j);clear z h1 A t d o D F q c hr hn;refine sx (S:=(λa=>Zc a lb 0 (O r))) 15 Zx Zg Zx ?_;simp only[jM,oC,List.setIfInBounds_toArray,List.set_cons_zero,List.set_cons_succ,List.size_toArray,List.length_cons,List.length_nil,Nat.zero_add,Nat.reduceAdd];refine Zt 0 b.j ?_;refine Zt 1 b.j ?_;refine Zt 2 b.j ?_;refine Zt 3 b.j ?_;refine Zt 4 b.j ?_;refine Zt 6 b.j ?_;refine Zt 7 b.j ?_;refine Zt 8 b.j ?_;refine Zt 9 b.j ?_;refine Zt 10 b.j ?_;refine Zt 11 b.j ?_;refine Zt 12 b.j ?_;refine Zy 5 (λK j=>?_);refine dc rfl 410 #[Operand.tmp 27] #[287] rfl #[.agg #[O 1,O r,O 0,O 0,O (gq n)]] (by first|rfl|simp[Act.eval,go_sem,G,N]) (by simp[go_sem]) (T.j _ P.j) ?_;rintro e wa ⟨rfl,k⟩;have W:=Y (s.j _ k.j);refine⟨_,rfl,?_⟩;refine Zb j W.j ?_;refine Zy 13 (λK j=>?_);refine dc rfl 410 #[Operand.tmp 35] #[287] rfl #[.agg #[O 19,O r,O r,O 0,O (fi n)]] (by first|rfl|simp[Act.eval,go_sem,G,N]) (by simp[go_sem]) (U.j _ k.j) ?_;rintro e wb ⟨rfl,l⟩;have X:=Y (s.j _ l.j);refine⟨_,rfl,?_⟩;refine Zb j X.j ?_;refine Zy 14 (λK j=>?_);go_simp;have Q:Hid (Zq w1 (wb.alloc (.cells #[J B,J C] 27))):=l.j.alloc _;have R:=Y (s.j _ Q.j);refine Zb j R.j ?_;refine wpAnyH_take (i:=15) (v:=undef) Zg Zx Zx Zx (by exact λ_ _ _ h=>h) (Or.inr ⟨by rfl,rfl⟩) R.j ?_;refine wpAnyH_done Zx ?_ _;simp only[p8]
 go_wp2
 go_ret;exact⟨wb.heap.size,rfl,by simp,by simp[go_sem],by simp[go_sem],V.j.trans Q.j⟩
end
section
open Go.Maps
open Go.Vx (cj gP H Ins fj cM dP oy eu bT dec bU eI)
def CG(D:DataW Unit)(at':Nat):cM->List Int->Prop
 |none,xs=>xs=[]
 |some (.inl n),xs=>n<4294967296/\xs=[(n:Int)]
 |some (.inr (.inr (r,v))),xs=>r<32/\v<4294967296/\dec (bT ⟨1,r,0,0,gq v⟩)=⟨1,r,0,0,gq v⟩/\dec (bT ⟨19,r,r,0,fi v⟩)=⟨19,r,r,0,fi v⟩/\xs=[bT ⟨1,r,0,0,gq v⟩,bT ⟨19,r,r,0,fi v⟩]
 |some (.inr (.inl (i,[]))),xs=>1<=i.op/\i.op<=48/\dec (bT i)=i/\xs=[bT i]
 |some (.inr (.inl (i,c::l))),xs=>1<=i.op/\i.op<=48/\l.length<=20000/\∃worth:Nat,worth<=1000000/\Maps.has D (.string (c::l))=true/\D.atKey (.string (c::l)) (.lit (.int .i64 0))=.lit (.int .i64 (worth:Int))/\
   dec (bT {i with bu:=(worth:Int) - at'})={i with bu:=(worth:Int) - at'}/\xs=[bT {i with bu:=(worth:Int) - at'}]
def uW(w:Z0)(v:Z3)(xs:List Int):Prop:=
 (xs=[]/\v=.slice none 0 0)\/∃g,xs.length<=2/\v=Zs g xs.length xs.length/\g<w.heap.size/\∀j,(hj:j<xs.length)->w.cell? (E g j)=some (.int .u32 xs[j])
theorem uW.one{x:Int}(h:Oo w v x N):uW w v [x]:=by
 have⟨g,hv,_,hg,a⟩:=h;refine Or.inr ⟨g,by simp,hv,hg,λj b=>?_⟩;have:j=0:=by simp at b;omega
 subst this;exact a
theorem adb(r n:Nat)(hr:r<32)(hn:n<4294967296)(h1:dec (bT ⟨1,r,0,0,gq n⟩)=⟨1,r,0,0,gq n⟩)(a:dec (bT ⟨19,r,r,0,fi n⟩)=⟨19,r,r,0,fi n⟩)(at' mb:Nat)(w:Z0)(b:dX w):
  Zk 409 #[.agg #[.int .i64 r,.int .i64 n],.int .i64 at',.map (some mb)] w λe w'=>∃v,Zr e v/\uW w' v [bT ⟨1,r,0,0,gq n⟩,bT ⟨19,r,r,0,fi n⟩]/\Zq w w':=by
 refine(ajW r n hr hn h1 a _ _ w b).m ?_;rintro e w' ⟨g,rfl,hg,c0,c1,c⟩;refine⟨_,rfl,Or.inr ⟨g,by simp,rfl,hg,λj d=>?_⟩,c⟩;have:j=0\/j=1:=by simp at d;omega
 rcases this with rfl|rfl
 ·exact c0
 exact c1
theorem LK:∀xs:List Int,(xs.flatMap λx=>eI x.toNat).length=4*xs.length
 |[]=>rfl
 |x::xs=>by
  rw[List.flatMap_cons,List.length_append,LK xs,List.length_cons];show 4+_=_;omega
theorem ada(at':Nat)(mb:Nat)(w:Z0):
  Zk 403 #[.agg #[],.int .i64 at',.map (some mb)] w λe w'=>∃v,Zr e v/\uW w' v []/\Zq w w':=by
 refine(aiL _ _ w).m ?_;rintro e w' ⟨rfl,a⟩;exact⟨_,rfl,Or.inl ⟨rfl,rfl⟩,a⟩
theorem ad9(n at':Nat)(hn:n<4294967296)(mb:Nat)(w:Z0):
  Zk 406 #[.agg #[.int .i64 n],.int .i64 at',.map (some mb)] w λe w'=>∃v,Zr e v/\uW w' v [(n:Int)]/\Zq w w':=by
 refine(ao5 n hn _ _ w).m ?_;rintro e w' ⟨v,rfl,h1,a⟩;exact⟨_,rfl,uW.one h1,a⟩
theorem ade(D:DataW Unit)(i:Ins)(ak:Z2)(xs:List Int)(at' n mb:Nat)(k:at'<=1000000)(he:CG D at' (.ins i ak) xs)(w:Z0)(f:dX w)(g:qS w mb n D):
  Zk 414 #[qz i ak,.int .i64 at',.map (some mb)] w λe w'=>∃v,Zr e v/\uW w' v xs/\Zq w w':=by
 cases ak with
 |nil=>
  obtain⟨a,h1,b,rfl⟩:=he;refine(alu i a h1 b _ _ w f).m ?_;rintro e w' ⟨v,rfl,h1,d⟩;exact⟨_,rfl,uW.one h1,d⟩
 |cons c l=>
  obtain⟨a,h1,h,worth,hw,j,ha,b,rfl⟩:=he;refine(als i c l h a h1 at' worth Z Z Z Z mb n D j ha b w f g).m ?_;rintro e w' ⟨v,rfl,h1,d⟩;exact⟨_,rfl,uW.one h1,d⟩
def qa(b:UInt8):Value:=.int .u8 (b.toNat:Int)
def je(xs:List Int):Z2:=xs.flatMap λx=>eI x.toNat
theorem ang(x:Int)(a:0<=x)(_h1:x<4294967296):[Value.int .u8 (x % 256),.int .u8 (x/256 % 256),.int .u8 (x/65536 % 256),.int .u8 (x/16777216 % 256)]=(je [x]).map qa:=by
 have hb:∀m:Nat,(UInt8.ofNat (m % 256)).toNat=m % 256:=λm=>by rw[UInt8.toNat_ofNat'];omega
 obtain⟨m,rfl⟩:∃m:Nat,(m:Int)=x:=⟨x.toNat,Z⟩;simp only[je,eI,List.flatMap_cons,List.flatMap_nil,List.append_nil,List.map_cons,List.map_nil,qa,hb,Int.toNat_natCast];rfl
theorem Yu:(prog.info? 5).map (λi=>(i.zero,i.size,i.bytes))=some (some (.int .u8 0),1,1):=Zx
theorem ak1{base:Nat}{L:Nat}(h:fS w pb mb base acc n D L)(j:Nat)(a:j<acc.length):
  ∃g c,w.cell? (E pb 0)=some (Zs g acc.length c)/\w.cell? (E g (j*2))=some (l8 (acc[j]).1)/\w.cell? (E g (j*2+1))=some (.int .i64 ((acc[j]).2:Int)):=by
 have⟨p,k,c,d,hr⟩:=h.lines;rcases hr.2 with⟨_,hn⟩|⟨g,cap,cur,hv,hb,f,s,_,t,i⟩
 ·omega
 obtain⟨rfl,rfl,rfl⟩:p=some (E g 0)/\k=acc.length/\c=cap:=by simpa using hv
 have m:∀(l:List (cM×Nat)) (j:Nat) (a:j<l.length),(l.flatMap nH)[j*2]?=some (l8 (l[j]).1)/\(l.flatMap nH)[j*2+1]?=some (.int .i64 ((l[j]).2:Int)):=by
  intro l;induction l with
  |nil=>intro j a;simp at a
  |cons x l o=>
   intro j a;cases j with
   |zero=>exact⟨rfl,rfl⟩
   |succ j=>
    have:=o j (by simpa using a);rw[List.flatMap_cons];have e:∀q,(nH x++l.flatMap nH)[q+2]?=(l.flatMap nH)[q]?:=λq=>rfl;rwa[show(j+1)*2=j*2+2 from Z,show j*2+2+1=(j*2+1)+2 from Z,e,e]
 have⟨f1,f2⟩:=m acc j a;have b:∀q,q<acc.length*2->w.cell? (E g q)=(acc.flatMap nH)[q]?:=by
  intro q r;rw[<-i,List.getElem?_take,if_pos r,Array.getElem?_toList];simp[World.cell?,f]
 exact⟨g,c,d,by rw[b _ Z];exact f1,by rw[b _ Z];exact f2⟩
theorem aoH(pb mb base:Nat)(acc:List (cM×Nat))(n:Nat)(D:DataW Unit)(L:Nat)(j:Nat)(a:j<acc.length)(xs:List Int)(Q:(acc[j]).2<=1000000)(he:CG D (acc[j]).2 (acc[j]).1 xs)(DS:∀x∈xs,0<=x/\x<4294967296)(w:Z0)(hp:fS w pb mb base acc n D L)(hF:dX w):
  Zk 31 #[M pb,.int .i64 j] w λe w'=>∃v,Zr e v/\w'.ownsRow w.heap.size 5 1 v (je xs).length ((je xs).map qa)/\Zq w w':=by
 have⟨g,c,kU,R,fv⟩:=ak1 hp j a;have⟨x,G⟩:∃x,acc[j]=x:=⟨_,rfl⟩;rw[G] at he R fv Q;have⟨s,at'⟩:=x;simp only at he R fv Q;obtain⟨tid,f,S⟩:∃tid f,l8 s=.iface tid f:=by cases s using Vx.cM.cs<;>exact⟨_,_,rfl⟩
 have z:=Y S;rw[S] at R;have bX:=hp.c1;have T:Hid (fS w pb mb base acc n D L):=hp;have A:Hid (∀x∈xs,0<=x/\x<4294967296):=DS;have HF:Hid (dX w):=hF;have l:Hid (CG D at' s xs):=he;have gF:0<=(j:Int)/\(j:Int)<(acc.length:Int):=Z;clear G S hp hF he DS;go_enter func31,ntmps31
 have ah:∀o,(w.alloc o).cell? (E pb 1)=some (.map (some mb)):=λo=>by
  rw[((H.refl (λ_=>False) w).alloc o).cell (p:=E pb 1) (Nat.lt_of_lt_of_le T.j.mJ T.j.og) id];exact bX
 obtain ⟨m, cT, pO, hW⟩ : ∃ m, (∀ B, (method 623 tid f "vault/asm.words").run prog B = .ok (m, f) B) /\ (∀ args B, (callFunc m args).run prog B = .ok (.enter m args) B) /\
   ∀w2,Zq w w2->Calls prog m #[f,.int .i64 (at':Int),.map (some mb)] w2 λe w3=>∃p k c,Zr e (.slice p k c)/\k=xs.length/\Hid (uW w3 (.slice p k c) xs/\Zq w w3):=by
  have K:∀w3 v,uW w3 v xs->∃p k c,v=.slice p k c/\k=xs.length:=by
   rintro w3 v (⟨rfl,rfl⟩|⟨g,_,rfl,_⟩)
   ·exact⟨_,_,_,rfl,rfl⟩
   exact⟨_,_,_,rfl,rfl⟩
  cases s using Vx.cM.cs with
  |no=>
   obtain⟨rfl,rfl⟩:=Value.iface.inj z.j;refine⟨403,λ_=>Zx,λ_ _=>by simp[go_sem],λw2 d=>(ada at' mb w2).m ?_⟩;rintro e w3 ⟨v,rfl,b,h⟩;obtain rfl:xs=[]:=l.j;obtain⟨p,k,c,rfl,hk⟩:=K w3 v b
   exact⟨p,k,c,rfl,hk,b,d.trans h⟩
  |word q=>
   obtain⟨rfl,rfl⟩:=Value.iface.inj z.j;refine⟨406,λ_=>Zx,λ_ _=>by simp[go_sem],λw2 d=>(ad9 q at' l.j.1 mb w2).m ?_⟩;rintro e w3 ⟨v,rfl,b,h⟩;obtain rfl:xs=[(q:Int)]:=l.j.2;obtain⟨p,k,c,rfl,hk⟩:=K w3 v b
   exact⟨p,k,c,rfl,hk,b,d.trans h⟩
  |li r q=>
   obtain⟨rfl,rfl⟩:=Value.iface.inj z.j;obtain⟨e1,e2,e3,e4,e5⟩:=l.j;refine⟨409,λ_=>Zx,λ_ _=>by simp[go_sem],λw2 d=>(adb r q e1 e2 e3 e4 at' mb w2 (HF.j.only d id)).m ?_⟩;rintro e w3 ⟨v,rfl,b,h⟩;rw[<-e5] at b;obtain⟨p,k,c,rfl,hk⟩:=K w3 v b
   exact⟨p,k,c,rfl,hk,b,d.trans h⟩
  |ins i ak=>
   obtain⟨rfl,rfl⟩:=Value.iface.inj z.j;refine⟨414,λ_=>Zx,λ_ _=>by simp[go_sem],λw2 d=>(ade D i ak xs at' n mb Q l.j w2 (HF.j.only d id) (T.j.map.only d id)).m ?_⟩;rintro e w3 ⟨v,rfl,b,h⟩;obtain⟨p,k,c,rfl,hk⟩:=K w3 v b;exact⟨p,k,c,rfl,hk,b,d.trans h⟩
 have HW:Hid (Calls prog m #[f,.int .i64 (at':Int),.map (some mb)] (w.alloc (.cells #[.iface tid f,.int .i64 (at':Int)] 192)).drew λe w3=>∃p k c,Zr e (.slice p k c)/\k=xs.length/\Hid (uW w3 (.slice p k c) xs/\Zq w w3)):=hW _ (((H.refl _ w).alloc _).drew);clear hW z l;go_wp2_with fail;go_cut [26,27,28] from 16 to 25 (λv26 U z28 wx=>∃p k c,v26=.slice p k c/\U=.int .i64 (xs.length:Int)/\z28=.int .i64 0/\k=xs.length/\Hid (uW wx (.slice p k c) xs/\Zq w wx))
 case first=>
  go_region_with (refine HW.j.m ?_;rintro e w3 ⟨V,k3,c3,rfl,rfl,t⟩)
  all_goals (go_wp2_with fail;go_meet)
  all_goals exact⟨V,_,c3,rfl,rfl,rfl,rfl,t⟩
 case rest=>
  obtain⟨V,k3,c3,rfl,rfl,rfl,yT,t⟩:=hcut;obtain⟨w3,cO⟩:=Ze (wc);subst cO;subst yT;have FV:xs.length<=2:=by rcases t.j.1 with⟨rfl,_⟩|⟨g,h9,_⟩;simp;exact h9
  obtain⟨i0,hi,px,el,jy⟩:=info_parts Yu;have F7:w.heap.size<=w3.heap.size:=t.j.2.size
  go_wp2
  go_loopw [6,28] (λv q wr=>∃k:Nat,k<=xs.length/\q=.int .i64 k/\wr.ownsRow w3.heap.size 5 1 v (je (xs.take k)).length ((je (xs.take k)).map qa)/\Below w3.heap.size w3 wr/\w3.heap.size<=wr.heap.size) (λ_ q _=>xs.length - (RowKit.intOf q).toNat)
  case atStart=>exact⟨0,Nat.zero_le _,rfl,World.ownsRow_nil _ _ _ _,Below.refl _ _,Nat.le_refl _⟩
  case round=>
   obtain⟨k,hk,rfl,y,N,tw⟩:=hrel;by_cases C:k<xs.length
   ·rcases t.j.1 with⟨G,_⟩|⟨g2,_,hv,gW,F⟩
    ·rw[G] at C;simp at C
    obtain⟨rfl,rfl⟩:V=some (E g2 0)/\c3=xs.length:=by simpa using hv
    obtain⟨x,P⟩:=Ze (xs[k]);have Ef:wr.cell? (E g2 k)=some (.int .u32 x):=by rw[N.cell (p:=E g2 k) gW,P];exact F k C
    have W:x∈xs:=by rw[P];exact List.getElem_mem C
    have X:Hid (je (xs.take (k+1))=je (xs.take k)++je [x]):=by
     show _=_;rw[List.take_succ_eq_append_getElem C,<-P];unfold je;rw[List.flatMap_append]
    have aa:Hid ((je (xs.take k)).length<=8):=by
     show(je (xs.take k)).length<=8;unfold je;rw[LK,List.length_take];omega
    have h1:(k:Int)<(xs.length:Int):=Z;have an:0<=(k:Int)/\(k:Int)<(xs.length:Int):=Z;have xe:=Zf k Z;have fE:=(A.j x W).1;have dd:=(A.j x W).2;have ab:Hid ([Value.int .u8 (x % 256),.int .u8 (x/256 % 256),.int .u8 (x/65536 % 256),.int .u8 (x/16777216 % 256)]=(je [x]).map qa):=ang x fE dd;clear hv F fE dd W P
    have C1:Hid (∀(j:Nat) (u:Z3),([Value.int .u8 (x % 256),.int .u8 (x/256 % 256),.int .u8 (x/65536 % 256),.int .u8 (x/16777216 % 256)])[j]?=some u->(wr.alloc (.cells #[.int .u8 (x % 256),.int .u8 (x/256 % 256),.int .u8 (x/65536 % 256),.int .u8 (x/16777216 % 256)] 5)).cell? (((E wr.heap.size 0):Addr).add j)=some u):=by
     intro j u a
     match j,a with
     |0,a=>simp at a;subst a;simp[Addr.add,go_sem]
     |1,a=>simp at a;subst a;simp[Addr.add,go_sem]
     |2,a=>simp at a;subst a;simp[Addr.add,go_sem]
     |3,a=>simp at a;subst a;simp[Addr.add,go_sem]
    have C2:Hid (∀u∈([Value.int .u8 (x % 256),.int .u8 (x/256 % 256),.int .u8 (x/65536 % 256),.int .u8 (x/16777216 % 256)]),u.oneCell'=true):=by
     intro u hu;simp at hu;rcases hu with rfl|rfl|rfl|rfl<;>rfl
    have C3:Hid ((je (xs.take k)).length+4<=maxLen/\((je (xs.take k)).length+4)*1<=140737488355328/\w3.heap.size<=(wr.alloc (.cells #[.int .u8 (x % 256),.int .u8 (x/256 % 256),.int .u8 (x/65536 % 256),.int .u8 (x/16777216 % 256)] 5)).heap.size):=by
     have h9:=aa.j;refine⟨by unfold maxLen;omega,Z,?_⟩;simp;omega
    have u7:Hid ((wr.alloc (.cells #[.int .u8 (x % 256),.int .u8 (x/256 % 256),.int .u8 (x/65536 % 256),.int .u8 (x/16777216 % 256)] 5)).ownsRow w3.heap.size 5 1 u6 (je (xs.take k)).length ((je (xs.take k)).map qa)):=y.alloc _;go_wp2_with (at_builtin;refine wpList_append_own _ rfl _ _ 128 rfl w3.heap.size 5 i0 (.int .u8 0) 1 1 underlying128 hi px el jy rfl I _ _ _ rfl u7.j (E wr.heap.size 0) 4 4 [.int .u8 (x % 256),.int .u8 (x/256 % 256),.int .u8 (x/65536 % 256),.int .u8 (x/16777216 % 256)] rfl rfl C1.j C2.j C3.j.1 C3.j.2.1 C3.j.2.2 ?_);intro v' w4 jz vO _;rw[ab.j] at jz;have ad:Below w3.heap.size w3 w4:=(N.alloc tw _).grown vO (by simp;omega) (λk hk=>(y.lt k hk).1);have ae:w3.heap.size<=w4.heap.size:=by have:=vO.size;simp at this;omega
    have ag:w4.ownsRow w3.heap.size 5 1 v' (je (xs.take (k+1))).length ((je (xs.take (k+1))).map qa):=by rw[X.j,List.map_append,List.length_append];exact jz
    clear jz vO y N tw
    go_wp2
    go_roundw
    case rel=>exact⟨k+1,Z,by go_num,ag,ad,ae⟩
    case measure=>exact Zm
   obtain rfl:k=xs.length:=Z;rw[List.take_length] at y;have h1:¬(xs.length:Int)<(xs.length:Int):=Z
   go_wp2
   go_ret;refine⟨_,rfl,?_,t.j.2.trans (H.zS N (λk hk hb=>Z))⟩;refine⟨y.1,?_⟩;rcases y.2 with hn|⟨g4,cap,cur,hv,hb,rest⟩
   ·exact Or.inl hn
   exact Or.inr ⟨g4,cap,cur,hv,Z,rest⟩
end
end Go.Proofs.YtdjlkahbpdoemaaGreatDoor
namespace Go.Vx
theorem af5(hg:o.guard=none)(f:FuncId)(args:Array Operand)(c:Array TypeId)(d:o.op=Op.call {callee:=Callee.value (.func f),args:=args,argTypes:=c})(b:Array Value)(hv:args.map a.eval=b)(g:(callFunc f b).run P w=.ok (.enter f b) w)(i:Calls P f b w R)(j:∀e w',R e w'->∃v,Zr e v/\K (a.put o.dst v) w'):
  if Region.wanted o (yielded ops a.tmps)=true then Oper.wp P o a w K Q else Z4:=by
 have hw:Region.wanted o (yielded ops a.tmps)=true:=by simp[Region.wanted,hg]
 rw[if_pos hw];unfold Oper.wp;simp[execOp,d,resolve,invoke,hv,g,Act.eval,Deferred.ofValue];refine i.m ?_;intro e w' h;obtain⟨v,rfl,hk⟩:=j e w' h;exact hk
theorem abC(g j:Nat):((E g 0):Addr).add j=(E g j):=by unfold Addr.add;split<;>simp_all
theorem af6(hg:o.guard=none)(s x:Operand)(t:TypeId)(h:o.op=Op.call {callee:=Callee.builtin Builtin.append,args:=#[s,x],argTypes:=#[t,t]})(base:Nat)(e:TypeId)(i:TypeInfo)(z:Z3)(size bytes:Nat)(h1:P.underlying t=some (.slice e))(k:P.info? e=some i)(q:i.zero=some z)(r:i.size=size)(y:i.bytes=bytes)(A:z.cells.size=size)(C:0<size)(v:Z3)(n:Nat)(xs:List Value)(hs:a.eval s=v)(d:w.ownsRow base e size v n xs)(sv:Z3)(B m:Nat)(news:List Value)(l:a.eval x=sv)(b:w.ownsRow B e size sv m news)(D:∀u∈news,u.oneCell'=true)(F:n+m<=maxLen)(G:(n+m)*bytes<=140737488355328)(hb:base<=w.heap.size)(p:∀c w',w'.ownsRow base e size c (n+m) (xs++news)->w.grownBy w' v.ownBlock->(c.ownBlock=v.ownBlock\/c.ownBlock=some w.heap.size)->K (a.put o.dst c) w'):
  if Region.wanted o (yielded ops a.tmps)=true then Oper.wp P o a w K Q else Z4:=by
 rcases b.2 with⟨rfl,rfl⟩|⟨g,cap,cur,rfl,rest⟩
 ·have hw:Region.wanted o (yielded ops a.tmps)=true:=by simp[Region.wanted,hg]
  rw[if_pos hw];have f:=List.length_eq_zero_iff.1 (by rw[b.1];omega);subst f;unfold Oper.wp;simp[execOp,h,resolve,invoke,builtin,hs,l,run_append_owned_none (P:=P) (w:=w) base t o.type e i size h1 k v n xs d,Result.andThen];exact p v w (by simpa using d) ⟨rfl,rfl,rfl,Nat.le_refl _,λ_ _ _=>rfl⟩ (Or.inl rfl)
 refine PH hg s x t h base e i z size bytes h1 k q r y A C v n xs hs d (E g 0) m cap news l b.1 (λj u N=>?_) D F G hb p;rwa[abC,World.ownsRow.cellAt b j (by rw[<-b.1];exact(List.getElem?_eq_some_iff.1 N).1)]
end Go.Vx
namespace Go.Proofs.YtdjlkahbpdoemaaGreatDoor
section
open Go.Maps
open Go.Vx (cj gP H Ins fj cM dP oy eu bT dec bU eI)
structure GK(w:Z0)(sb rb:Nat)(aW:List (Z2)):Prop where
 sb:w.cell? (E sb 0)=some (Zs rb aW.length aW.length)
 rb:∀(j:Nat) (h:j<aW.length),w.cell? (E rb j)=some (.string ⟨(aW[j]).toArray⟩)
theorem aoi(pb sb rb k:Nat)(aW:List (Z2))(hk:k<aW.length)(w:Z0)(hs:GK w sb rb aW)(R:World->Prop)
  (h:Zk 29 #[M pb,.string ⟨(aW[k]).toArray⟩] w λe w'=>Zr e (.tuple #[])/\R w'):
  Zk 28 #[O k,M pb,M sb] w λe w'=>Zr e (.tuple #[])/\R w':=by
 have a:=Y h;have h1:=hs.sb;have b:=hs.rb k hk;have⟨s,c⟩:∃s,aW[k]=s:=⟨_,rfl⟩;rw[c] at b a;have f:0<=(k:Int)/\(k:Int)<(aW.length:Int):=Z;go_enter func28,ntmps28;go_wp2_with fail;refine a.j.m ?_;rintro e w1 ⟨rfl,d⟩;go_wp2_with fail;first|go_end0|refine bodyPost_ret (results_none rfl _ _ _) rfl ?_
 exact⟨rfl,(Y d).j⟩
structure yl(w:Z0)(cb:Nat)(bs:Z2):Prop where
 lt:cb<w.heap.size
 cell:∃p k c,w.cell? (E cb 0)=some (.slice p k c)/\w.ownsRow (cb+1) 5 1 (.slice p k c) bs.length (bs.map qa)
 fz:w.frozen? (E cb 0)=false
def ra(cb:Nat)(w:Z0)(b:Nat):Prop:=b=cb\/∃v,w.cell? (E cb 0)=some v/\v.ownBlock=some b
theorem yl.only(h:yl w cb bs)(a:H S w w')(d:∀b,ra cb w b->¬S b):yl w' cb bs/\∀b,ra cb w' b↔ra cb w b:=by
 have e:=a.cell (p:=E cb 0) h.lt (d cb (Or.inl rfl));have⟨p,k,c,f,hr⟩:=h.cell;refine⟨⟨Nat.lt_of_lt_of_le h.lt a.size,⟨p,k,c,e▸f,Du hr a (λb hb=>d b (Or.inr ⟨_,f,hb⟩))⟩,(a.frozen (p:=E cb 0) h.lt (d cb (Or.inl rfl)))▸h.fz⟩,λb=>?_⟩;unfold ra;rw[e]
theorem yl.iu(h:yl w cb bs)(b:Nat)(hb:ra cb w b):b<w.heap.size/\cb<=b:=by
 rcases hb with rfl|⟨v,hv,a⟩
 ·exact⟨h.lt,Nat.le_refl _⟩
 have⟨p,k,c,d,hr⟩:=h.cell;rw[d] at hv;obtain rfl:=Option.some.inj hv;have:=hr.lt b a;exact⟨this.2,Z⟩
theorem aoh(cb pb k:Nat)(bs xs:Z2)(X:xs.length<=8)(tw:bs.length<=1000000)(w:Z0)(d:yl w cb bs)
  (h:∀w2,Zq w w2->Zk 31 #[M pb,O k] w2 λe w'=>∃v,Zr e v/\w'.ownsRow w2.heap.size 5 1 v xs.length (xs.map qa)/\Zq w2 w'):
  Zk 30 #[O k,M cb,M pb] w λe w'=>Zr e (.tuple #[])/\yl w' cb (bs++xs)/\H (ra cb w) w w'/\∀b,b<w.heap.size->ra cb w' b->ra cb w b:=by
 have⟨p,n,c,o,hr⟩:=d.cell;have C:=Y d;have q:=d.lt;have yZ:=d.fz;have D:∀args y,(callFunc 31 args).run prog y=.ok (.enter 31 args) y:=λ_ _=>by simp[go_sem]
 have⟨i0,hi,F,G,K⟩:=info_parts Yu;have N:Hid (Zk 31 #[M pb,O k] w.drew λe w'=>∃f n1 c1,Zr e (.slice f n1 c1)/\w'.cell? (E cb 0)=some (.slice p n c)/\Hid (w'.ownsRow w.heap.size 5 1 (.slice f n1 c1) xs.length (xs.map qa)/\w'.ownsRow (cb+1) 5 1 (.slice p n c) bs.length (bs.map qa)/\Zq w w'/\cb+1<=w'.heap.size)):=by
  refine(h w.drew (H.refl _ w).drew).m ?_;rintro e w' ⟨v,rfl,h1,g⟩;have l:Zq w w':=⟨g.os,g.tape,g.output,g.size,g.block⟩;obtain⟨f,n1,c1,rfl⟩:=Fk h1;refine⟨f,n1,c1,rfl,?_,h1,Du hr l (λ_ _ h=>h),l,by have:=l.size;omega⟩;rwa[l.cell (p:=E cb 0) q id]
 have r:Hid (bs.length+xs.length<=maxLen/\(bs.length+xs.length)*1<=140737488355328/\∀u∈xs.map qa,u.oneCell'=true):=by
  refine⟨by unfold maxLen;omega,Z,λu hu=>?_⟩;rw[List.mem_map] at hu;obtain⟨x,_,rfl⟩:=hu;rfl
 have P:Hid (∀w1 w4 a,Zq w w1->w1.grownBy w4 (Value.slice p n c).ownBlock->w4.ownsRow (cb+1) 5 1 a (bs.length+xs.length) (bs.map qa++xs.map qa)->(a.ownBlock=(Value.slice p n c).ownBlock\/a.ownBlock=some w1.heap.size)->∃p' k' c',a=.slice p' k' c'/\Zc w4 cb 0 (.slice p n c)/\w4.frozen? (E cb 0)=false/\
   Hid (yl (w4.setCell (E cb 0) (.slice p' k' c')) cb (bs++xs)/\H (ra cb w) w (w4.setCell (E cb 0) (.slice p' k' c'))/\∀b,b<w.heap.size->ra cb (w4.setCell (E cb 0) (.slice p' k' c')) b->ra cb w b)):=by
  intro w1 w4 a z hg i Q;obtain⟨p',k',c',rfl⟩:=Fk i;have R:=λb(hb:(Value.slice p n c).ownBlock=some b)=>(hr.lt b hb).1;have g4:=(z.mono λ_ _ h=>h.elim).trans (H.Ix hg (λk hk=>hk));have A:¬(Value.slice p n c).ownBlock=some cb:=λe=>by have:=R cb e;omega
  have s:w4.cell? (E cb 0)=some (.slice p n c):=by rw[g4.cell (p:=E cb 0) q A];exact o
  have j:w4.frozen? (E cb 0)=false:=by rw[g4.frozen (p:=E cb 0) q A];exact C.j.fz
  have B:H (λx=>x=cb) w4 (w4.setCell (E cb 0) (.slice p' k' c')):=H.setCell (S:=λx=>x=cb) (H.refl _ _) (p:=E cb 0) (Or.inl rfl) _;have s4:=g4.size;refine⟨p',k',c',rfl,s,j,⟨by rw[size_set];omega,⟨p',k',c',same s,?_⟩,AE _ _ _ _ j⟩,?_,λb hb t=>?_⟩
  ·have:=Du i B (λb hb e=>by have:=(i.lt b hb).1;omega);simpa using this
  ·exact(g4.mono λb _ hb=>Or.inr ⟨_,o,hb⟩).trans (B.mono λb _ hb=>Or.inl hb)
  rcases t with t|⟨v,hv,m⟩
  ·exact Or.inl t
  rw[same s] at hv;obtain rfl:=Option.some.inj hv;rcases Q with e|e
  ·rw[e] at m;exact Or.inr ⟨_,o,m⟩
  rw[e] at m;obtain rfl:=Option.some.inj m;have:=z.size;omega
 clear hr h d;go_enter func30,ntmps30
 go_region_law (first|(refine af6 rfl (.tmp 4) (.tmp 6) 128 rfl (cb+1) 5 i0 (.int .u8 0) 1 1 underlying128 hi F G K rfl I (.slice p n c) bs.length (bs.map qa) (by simp[Act.eval]) H1.j.2.1 _ _ xs.length (xs.map qa) rfl H1.j.1 r.j.2.2 r.j.1 r.j.2.1 H1.j.2.2.2 ?_;intro a w4 i T U;obtain⟨p',k',c',rfl,fv,gW,V⟩:=P.j w1 w4 a H1.j.2.2.1 T i U)|(refine af5 rfl 31 #[.tmp 2,.tmp 5] #[124,3] rfl #[M pb,O k] (by simp[Act.eval,Act.put]) (D _ _) N.j ?_;rintro e w1 ⟨f,n1,c1,rfl,W,H1⟩;refine⟨_,rfl,?_⟩))
 all_goals first|go_end0|refine bodyPost_ret (results_none rfl _ _ _) rfl ?_
 all_goals exact⟨rfl,V.j⟩
end
end Go.Proofs.YtdjlkahbpdoemaaGreatDoor
namespace Go.Vx
def gm:List (Z2)->Z2
 |[]=>[]
 |[l]=>l
 |l::l2::ls=>l++10::gm (l2::ls)
theorem Yw:∀(l r:Z2) (c:UInt8),c∉l->Lib.indexByte (l++c::r) c=(l.length:Int)
 |[],r,c,_=>by unfold Lib.indexByte;simp
 |b::l,r,c,h=>by
  have h1:b≠c:=λe=>h (by simp[e])
  have a:=Yw l r c (λe=>h (by simp[e]));rw[List.cons_append];unfold Lib.indexByte;rw[a];simp only[beq_iff_eq,h1,if_false,List.length_cons];rw[if_neg Z];omega
theorem ab8:∀(ls:List (Z2)),ls≠[]->(∀l∈ls,(10:UInt8)∉l)->(gm ls).count 10=ls.length - 1
 |[],h,_=>absurd rfl h
 |[l],_,h=>by simpa[gm] using List.count_eq_zero.2 (h l (by simp))
 |l::l2::ls,_,h=>by
  have h1:=ab8 (l2::ls) (by simp) (λx a=>h x (by simp at a|-;right;exact a));have b:l.count 10=0:=List.count_eq_zero.2 (h l (by simp));rw[gm,List.count_append,List.count_cons_self,h1,b];simp
theorem aeH(l:Z2)(r:Z2):(⟨(l++10::r).toArray⟩:ByteArray).extract (l.length+1) (⟨(l++10::r).toArray⟩:ByteArray).size=⟨r.toArray⟩:=by
 apply ByteArray.ext;apply Array.ext';rw[Lib.extract_data];have hs:(ByteArray.mk (l++10::r).toArray).size=l.length+1+r.length:=by simp[ByteArray.size];omega
 rw[hs];have e:(l++10::r).drop (l.length+1)=r:=by
  rw[show l++10::r=(l++[10])++r by simp,List.drop_left' (by simp)]
 show(((l++10::r).drop (l.length+1)).take (l.length+1+r.length - (l.length+1)))=r;rw[e];exact List.take_of_length_le Z
theorem amE(l:Z2)(r:Z2):(⟨(l++10::r).toArray⟩:ByteArray).extract 0 (l.length+0)=⟨l.toArray⟩:=by
 apply ByteArray.ext;apply Array.ext';rw[Lib.extract_data];show(((l++10::r).drop 0).take (l.length+0 - 0))=l;simp
theorem VJ:∀(ls:List (Z2)),ls≠[]->(∀l∈ls,(10:UInt8)∉l)->Lib.countB ⟨(gm ls).toArray⟩ ⟨#[10]⟩=ls.length - 1/\Lib.splitB ⟨#[10]⟩ 0 (ls.length - 1) ⟨(gm ls).toArray⟩=ls.map (λl=>(⟨l.toArray⟩:ByteArray))
 |[],h,_=>absurd rfl h
 |[l],_,h=>by
  have hi:Lib.indexB ⟨l.toArray⟩ ⟨#[10]⟩= -1:=by
   show Lib.index l [10]= -1;rw[Lib.index_one,index_none l 10 (h l (by simp))]
  exact⟨Lib.countB_miss _ _ hi,rfl⟩
 |l::a::ls,_,h=>by
  have⟨h1,c⟩:=VJ (a::ls) (by simp) (λx b=>h x (by simp at b|-;right;exact b));have hi:Lib.indexB ⟨(l++10::gm (a::ls)).toArray⟩ ⟨#[10]⟩=(l.length:Int):=by
   show Lib.index (l++10::gm (a::ls)) [10]=_;rw[Lib.index_one,Yw _ _ _ (h l (by simp))]
  have ht:(⟨(l++10::gm (a::ls)).toArray⟩:ByteArray).extract (l.length+(ByteArray.mk #[10]).size) (⟨(l++10::gm (a::ls)).toArray⟩:ByteArray).size=⟨(gm (a::ls)).toArray⟩:=aeH l _;constructor
  ·rw[gm,Lib.countB_hit _ _ l.length I hi,ht,h1];simp;omega
  have e:(l::a::ls).length - 1=((a::ls).length - 1)+1:=by simp
  rw[e,gm,Lib.splitB_hit _ _ _ _ l.length hi,ht,c,amE];rfl
theorem Ya:∀(ls:List (Z2)) (m:Nat),(∀l∈ls,l.length<=m)->(gm ls).length<=ls.length*(m+1)
 |[],_,_=>by simp[gm]
 |[l],m,h=>by have:=h l (by simp);simp[gm];omega
 |l::a::ls,m,h=>by
  have h1:=Ya (a::ls) m (λx b=>h x (by simp at b|-;right;exact b));have c:=h l (by simp);have e:(l::a::ls).length*(m+1)=(a::ls).length*(m+1)+(m+1):=by rw[List.length_cons,Nat.add_mul];omega
  rw[gm,List.length_append,List.length_cons,e];omega
def iD:List cM->Nat->List (cM×Nat)
 |[],_=>[]
 |s::ss,a=>(s,a)::iD ss (a+eu s)
def iT:List cM->Nat
 |[]=>0
 |s::ss=>eu s+iT ss
theorem abE:∀(ss:List cM) (s:cM) (a:Nat),iD (ss++[s]) a=iD ss a++[(s,a+iT ss)]
 |[],s,a=>by simp[iD,iT]
 |x::ss,s,a=>by
  rw[List.cons_append,iD,abE ss s];simp only[iD,iT,List.cons_append];rw[Nat.add_assoc]
theorem X5:∀(ss:List cM) (s:cM),iT (ss++[s])=iT ss+eu s
 |[],s=>by simp[iT]
 |x::ss,s=>by rw[List.cons_append,iT,X5 ss s,iT];omega
theorem Ka:∀(ss:List cM) (a:Nat),(iD ss a).length=ss.length
 |[],_=>rfl
 |s::ss,a=>by simp[iD,Ka ss]
theorem QU:∀ss:List cM,iT ss<=8*ss.length
 |[]=>Nat.le_refl _
 |s::ss=>by
  have:=QU ss;have h:eu s<=8:=by cases s using Vx.cM.cs<;>simp[eu]
  simp only[iT,List.length_cons];omega
theorem aeD{α:Type}(l:List α)(k:Nat)(h:k<l.length):l.take (k+1)=l.take k++[l[k]]:=by
 rw[List.take_add_one,List.getElem?_eq_getElem h];rfl
end Go.Vx
namespace Go.Proofs.YtdjlkahbpdoemaaGreatDoor
section
open Go.Maps
open Go.Vx (cj gP H Ins fj cM dP oy eu bT dec bU eI iD iT gm)
structure One(mx:Int)(pb mb base sb rb:Nat)(aW:List (Z2))(bc:List cM)(nF:Nat->Nat)(DF:Nat->DataW Unit)(k:Nat)(w:Z0):Prop where
 pr:fS w pb mb base (iD (bc.take k) 0) (nF k) (DF k) (iT (bc.take k))
 src:GK w sb rb aW
 max:kC mx w
structure On(pb mb base sb rb:Nat):Prop where
 s1:sb<base
 s2:sb≠pb
 s3:sb≠mb
 r1:rb<base
 r2:rb≠pb
 r3:rb≠mb
 g1:0<base
 g2:0≠pb
 g3:0≠mb
theorem GK.only(h:GK w sb rb aW)(a:H S w w')(hs:sb<w.heap.size)(hr:rb<w.heap.size)(h1:¬S sb)(b:¬S rb):GK w' sb rb aW:=
 ⟨(a.cell (p:=E sb 0) hs h1)▸h.sb,λj c=>(a.cell (p:=E rb j) hr b)▸h.rb j c⟩
theorem One.kept{base:Nat}(a:On pb mb base sb rb){k:Nat}(h:One mx pb mb base sb rb aW bc nF DF k w)(b:H S w w')(h1:¬S sb)(c:¬S rb)(d:¬S 0):GK w' sb rb aW/\kC mx w':=by
 have hb:=h.pr.og;have e:=a.s1;have f:=a.r1;have g:=a.g1;refine⟨h.src.only b Z Z h1 c,?_⟩;unfold kC;rw[b.cell (p:=E 0 0) (by show 0<_;omega) d];exact h.max
theorem ahN{base:Nat}(a:On pb mb base sb rb)(B0:Nat)(i:base<=B0):Pass B0 (One mx pb mb base sb rb aW bc nF DF) (bS pb mb):=by
 refine⟨λk w w' h c=>?_,λk w h b hb=>(h.pr.iu b hb).1⟩;have⟨d,e⟩:=h.pr.only c (λb hb hs=>hs.2 hb);have⟨f,g⟩:=h.kept a c (λhs=>by have:=hs.1;have:=a.s1;omega) (λhs=>by have:=hs.1;have:=a.r1;omega) (λhs=>by have:=hs.1;have:=a.g1;omega);exact⟨⟨d,f,g⟩,λb hb=>(e b).1 hb⟩
theorem QE{base:Nat}{L:Nat}(h:fS w pb mb base acc n D L)(h1:b<base)(a:b≠pb)(c:b≠mb):¬bS pb mb w b:=λhb=>by
 rcases(h.iu b hb).2 with e|e|e
 ·exact a e
 ·exact c e
 omega
theorem step1{base:Nat}(a:On pb mb base sb rb)(hlen:bc.length=aW.length)(k:Nat)(hk:k<aW.length)(c:∀w,One mx pb mb base sb rb aW bc nF DF k w->Zk 29 #[M pb,.string ⟨(aW[k]).toArray⟩] w λe w'=>Zr e (.tuple #[])/\fS w' pb mb base (iD (bc.take k) 0++[(bc[k]'Z,iT (bc.take k))]) (nF (k+1)) (DF (k+1)) (iT (bc.take k)+eu (bc[k]'Z))/\H (bS pb mb w) w w'/\∀b,b<w.heap.size->bS pb mb w' b->bS pb mb w b)(w:Z0)(h:One mx pb mb base sb rb aW bc nF DF k w):
  Zk 28 #[O k,M pb,M sb] w λe w'=>Zr e (.tuple #[])/\One mx pb mb base sb rb aW bc nF DF (k+1) w'/\H (bS pb mb w) w w'/\∀b,b<w.heap.size->bS pb mb w' b->bS pb mb w b:=by
 refine aoi pb sb rb k aW hk w h.src _ ((c w h).m ?_);rintro e w' ⟨rfl,hp,d,hb⟩;have⟨f,g⟩:=h.kept a d (QE h.pr a.s1 a.s2 a.s3) (QE h.pr a.r1 a.r2 a.r3) (QE h.pr a.g1 a.g2 a.g3);refine⟨rfl,⟨?_,f,g⟩,d,hb⟩;rwa[aeD bc k Z,abE,X5,Nat.zero_add]
structure Kb(pb mb base cb:Nat)(acc:List (cM×Nat))(n:Nat)(D:DataW Unit)(L:Nat)(cF:Nat->Z2)(k:Nat)(w:Z0):Prop where
 pr:fS w pb mb base acc n D L
 forms:dX w
 code:yl w cb (cF k)
 low:∀b,bS pb mb w b->b<cb
theorem ahM{base:Nat}{L:Nat}(hf:3<cb)(B0:Nat)(g:cb<=B0):Pass B0 (Kb pb mb base cb acc n D L cF) (ra cb):=by
 refine⟨λk w w' h a=>?_,λk w h b hb=>(h.code.iu b hb).1⟩;have⟨c,d⟩:=h.pr.only a (λb hb hs=>by have:=h.low b hb;have:=hs.1;omega);have⟨e,f⟩:=h.code.only a (λb hb hs=>hs.2 hb);exact⟨⟨c,h.forms.only a (λhs=>by have:=hs.1;omega),e,λb hb=>h.low b ((d b).1 hb)⟩,λb hb=>(f b).1 hb⟩
theorem step2{base:Nat}{L:Nat}(hf:3<cb)(k:Nat)(hk:k<acc.length)(xs:List Int)(p:xs.length<=2)(d:(acc[k]).2<=1000000)(he:CG D (acc[k]).2 (acc[k]).1 xs)(f:∀x∈xs,0<=x/\x<4294967296)(g:cF (k+1)=cF k++je xs)(i:(cF k).length<=1000000)(w:Z0)(h:Kb pb mb base cb acc n D L cF k w):
  Zk 30 #[O k,M cb,M pb] w λe w'=>Zr e (.tuple #[])/\Kb pb mb base cb acc n D L cF (k+1) w'/\H (ra cb w) w w'/\∀b,b<w.heap.size->ra cb w' b->ra cb w b:=by
 have j:(je xs).length<=8:=by
  unfold je;rw[LK];omega
 refine(aoh cb pb k (cF k) (je xs) j i w h.code (λw2 c=>?_)).m ?_
 ·have⟨l,_⟩:=h.pr.only c (λ_ _ h=>h);exact aoH pb mb base acc n D L k hk xs d he f w2 l (h.forms.only c id)
 rintro e w' ⟨rfl,q,a,hb⟩;have⟨m,o⟩:=h.pr.only a (λb hb hs=>by have:=h.low b hb;have:=(h.code.iu b hs).2;omega);refine⟨rfl,⟨m,h.forms.only a (λhs=>by have:=(h.code.iu _ hs).2;omega),?_,λb hb=>h.low b ((o b).1 hb)⟩,a,hb⟩;rwa[g]
structure UC(aW:List (Z2))(bc:List cM)(nF:Nat->Nat)(DF:Nat->DataW Unit):Prop where
 len:bc.length=aW.length
 ne:aW≠[]
 Ct:aW.length<=2000
 nl:∀l∈aW,(10:UInt8)∉l
 size:(gm aW).length<=20000
 n0:nF 0=0
 D0:DF 0=.map []
 read:∀(mx:Int) (pb mb base sb rb k:Nat) (hk:k<aW.length) (w:Z0),One mx pb mb base sb rb aW bc nF DF k w->
  Zk 29 #[M pb,.string ⟨(aW[k]).toArray⟩] w λe w'=>Zr e (.tuple #[])/\fS w' pb mb base (iD (bc.take k) 0++[(bc[k]'Z,iT (bc.take k))]) (nF (k+1)) (DF (k+1)) (iT (bc.take k)+eu (bc[k]'Z))/\H (bS pb mb w) w w'/\∀b,b<w.heap.size->bS pb mb w' b->bS pb mb w b
theorem ag8{base:Nat}{p:Option Addr}{k c:Nat}(h:w.ownsRow base e size (.slice p k c) n xs):k=n:=by
 rcases h.2 with⟨h1,a⟩|⟨g,cap,cur,h1,_⟩
 ·have:=(Value.slice.inj h1).2.1;omega
 exact(Value.slice.inj h1).2.1
def Fh(w:Z0)(aW:List (Z2))(N:Nat):World:=
 (((w.alloc (.cells (List.map (Value.string∘λl=>(⟨l.toArray⟩:ByteArray)) aW).toArray 9)).alloc (.cells #[Zs w.heap.size N N] 119)).alloc (.map #[] 0)).alloc (.cells #[.slice none 0 0,.map (some (w.heap.size+1+1)),.int .i64 0] 124)
theorem aim(aW:List (Z2))(bc:List cM)(nF:Nat->Nat)(DF:Nat->DataW Unit)(k:nF 0=0)(m:DF 0=.map [])(mx:Int)(N:Nat)(hN:aW.length=N)(w:Z0)(hm:kC mx w)(hg:0<w.heap.size):
  One mx (w.heap.size+1+1+1) (w.heap.size+1+1) (w.heap.size+4) (w.heap.size+1) w.heap.size aW bc nF DF 0 (Fh w aW N)/\(∀S:Z1,H S w (Fh w aW N))/\(Fh w aW N).heap.size=w.heap.size+4:=by
 have⟨wa,c⟩:∃wa,w.alloc (.cells (List.map (Value.string∘λl=>(⟨l.toArray⟩:ByteArray)) aW).toArray 9)=wa:=⟨_,rfl⟩;have⟨wb,d⟩:∃wb,wa.alloc (.cells #[Zs w.heap.size N N] 119)=wb:=⟨_,rfl⟩;have⟨wc,f⟩:∃wc,wb.alloc (.map #[] 0)=wc:=⟨_,rfl⟩;have⟨wd,a⟩:∃wd,wc.alloc (.cells #[.slice none 0 0,.map (some (w.heap.size+1+1)),.int .i64 0] 124)=wd:=⟨_,rfl⟩;have e:Fh w aW N=wd:=by unfold Fh;rw[c,d,f,a]
 rw[e];have g:wa.heap.size=w.heap.size+1:=by rw[<-c];simp
 have sb:wb.heap.size=w.heap.size+2:=by rw[<-d];simp[g]
 have n:wc.heap.size=w.heap.size+3:=by rw[<-f];simp[sb]
 have sd:wd.heap.size=w.heap.size+4:=by rw[<-a];simp[n]
 have h:∀S:Z1,H S w wa:=λS=>by rw[<-c];exact(H.refl _ _).alloc _
 have ob:∀S:Z1,H S wa wb:=λS=>by rw[<-d];exact(H.refl _ _).alloc _
 have oc:∀S:Z1,H S wb wc:=λS=>by rw[<-f];exact(H.refl _ _).alloc _
 have b:∀S:Z1,H S wc wd:=λS=>by rw[<-a];exact(H.refl _ _).alloc _
 have op:∀o,wd.cell? ⟨w.heap.size+1+1+1,o,none⟩=(#[Value.slice none 0 0,.map (some (w.heap.size+1+1)),.int .i64 0])[o]?:=λo=>by
  rw[show w.heap.size+1+1+1=wc.heap.size from Z,<-a,World.cell?_alloc_new]
 refine⟨⟨⟨Z,Z,Z,Z,⟨none,0,0,op 0,World.ownsRow_nil _ _ _ _⟩,op 1,op 2,λo=>?_,?_⟩,⟨?_,λj q=>?_⟩,?_⟩,λS=>(((h S).trans (ob S)).trans (oc S)).trans (b S),sd⟩
 ·rw[show w.heap.size+1+1+1=wc.heap.size from Z,<-a];exact World.frozen?_alloc_new _ _ _ _
 ·rw[k,m];have i:qS wc wb.heap.size 0 (.map []):=f▸World.ownsMap_made _ _ _ _;rw[sb] at i;exact i.only (b (λ_=>False)) id
 ·rw[hN,(b (λ_=>False)).cell (p:=⟨w.heap.size+1,0,none⟩) (by show w.heap.size+1<_;omega) id,(oc (λ_=>False)).cell (p:=⟨w.heap.size+1,0,none⟩) (by show w.heap.size+1<_;omega) id,<-g,<-d,World.cell?_alloc_new];rfl
 ·rw[(b (λ_=>False)).cell (p:=E w.heap.size j) (by show w.heap.size<_;omega) id,(oc (λ_=>False)).cell (p:=E w.heap.size j) (by show w.heap.size<_;omega) id,(ob (λ_=>False)).cell (p:=E w.heap.size j) (by show w.heap.size<_;omega) id,<-c,World.cell?_alloc_new];simp[q]
 unfold kC;rwa[((((h (λ_=>False)).trans (ob _)).trans (oc _)).trans (b _)).cell (p:=E 0 0) hg id]
theorem places(N:Nat)(h:0<N):On (N+1+1+1) (N+1+1) (N+4) (N+1) N:=⟨Z,Z,Z,Z,Z,Z,Z,Z,Z⟩
theorem aof(h:yl w cb bs)(a:bs≠[]):∃p k c,w.cell? (E cb 0)=some (.slice p k c)/\(convert 128 9 (.slice p k c)).run prog w=.ok (.string ⟨bs.toArray⟩) w:=by
 have⟨p,k,c,b,hr⟩:=h.cell;refine⟨p,k,c,b,?_⟩;rcases hr.2 with⟨_,hn⟩|⟨g,cap,cur,hv,rest⟩
 ·exact absurd (List.length_eq_zero_iff.1 hn) a
 rw[hv] at hr|-;refine run_convert_bytes_back (P:=prog) w 128 9 5 (E g 0) cap bs underlying128 underlying5 underlying9 (λj d=>?_);rw[abC,World.ownsRow.cellAt hr j Z,List.getElem?_map,List.getElem?_eq_getElem d];rfl
theorem apc(aW:List (Z2))(bc:List cM)(nF:Nat->Nat)(DF:Nat->DataW Unit)(g:UC aW bc nF DF)(m:Nat->List Int)(dd:∀k,(m k).length<=2)(DS:∀k,∀x∈m k,0<=x/\x<4294967296)
  (Jy:∀k (hk:k<(iD bc 0).length),CG (DF aW.length) ((iD bc 0)[k]).2 ((iD bc 0)[k]).1 (m k)) (C:∀k (hk:k<(iD bc 0).length),((iD bc 0)[k]).2<=1000000) (cF:Nat->Z2) (kU:cF 0=[]) (SH:∀k,cF (k+1)=cF k++je (m k)) (dA:∀k,k<=bc.length->(cF k).length<=1000000) (iC:cF bc.length≠[])
  (mx:Int) (w:Z0) (hm:kC mx w) (hF:dX w) (hg:0<w.heap.size):
  Zk 14 #[.string ⟨(gm aW).toArray⟩] w λe w'=>Zr e (.tuple #[.string ⟨(cF bc.length).toArray⟩,.int .i64 0,.int .i64 0])/\Zq w w':=by
 have v:=Y g;have P:=Y hm;have Q:=Y hF;have uD:∀(fn:Fn) (first cap:Array Value) (w:Z0),(Instr.makeFunc fn first cap).run prog w=.ok (.func fn first cap) w:=λ_ _ _ _=>rfl;have pI:= @run_makeMap prog;have⟨t,ht⟩:∃t,gm aW=t:=⟨_,rfl⟩;have gR:(ByteArray.mk t.toArray).size=t.length:=by simp[ByteArray.size]
 have Aj:t.length<=20000:=by rw[<-ht];exact g.size
 have⟨R,T⟩:=VJ aW g.ne g.nl;rw[ht] at R T;have oN:=List.length_pos_iff.2 g.ne;have aa:=g.Ct;have hlen:=g.len;have E2:Hid (Lib.countByte t 10=aW.length - 1):=by
  show t.count 10=_;rw[<-ht];exact ab8 aW g.ne g.nl
 rw[ht];have⟨N,hN⟩:∃N,aW.length=N:=⟨_,rfl⟩;have S3:N - 1+1=N:=Z;have av:Hid (∀d,kC mx d->Zk 26 #[.string ⟨t.toArray⟩,.string ⟨#[10]⟩] d λe w'=>Zr e (Zs d.heap.size N N)/\w'=d.alloc (.cells ((aW.map (λl=>(⟨l.toArray⟩:ByteArray))).map Value.string).toArray 9)):=by
  intro d hv;have h:=strings_Split ⟨t.toArray⟩ ⟨#[10]⟩ mx d (by rw[gR];omega) hv I;rwa[R,T,hN,S3] at h
 have qI:¬(2000:Int)<=((N - 1:Nat):Int):=Z;go_enter func14,ntmps14;go_wp2_with fail;refine(strings_Count_one ⟨t.toArray⟩ 10 _).m ?_;rintro e w1 ⟨rfl,rfl⟩;have e1:Lib.countByte (ByteArray.mk t.toArray).data.toList 10=N - 1:=by rw[<-hN];exact E2.j
 rw[e1];go_wp2_with fail;refine(av.j _ P.j).m ?_;rintro e w2 ⟨rfl,rfl⟩;go_wp2_with fail;have⟨h1,U,D⟩:=aim aW bc nF DF v.j.n0 v.j.D0 mx N hN w1 P.j hg;have V:=places w1.heap.size hg;have n:=aaS (f:=28) (Or.inl rfl) N N Z (.pointer (some ⟨w1.heap.size+1+1+1,0,none⟩)) (.pointer (some ⟨w1.heap.size+1,0,none⟩)) (One mx (w1.heap.size+1+1+1) (w1.heap.size+1+1) (w1.heap.size+4) (w1.heap.size+1) w1.heap.size aW bc nF DF) (bS (w1.heap.size+1+1+1) (w1.heap.size+1+1)) (Fh w1 aW N) (ahN V _ Z) h1 (Nat.le_refl _) 1 rfl (λk hk d hv=>step1 V v.j.len k Z (v.j.read mx _ _ _ _ _ k Z) d hv) (λh=>absurd h Z);refine n.m ?_;rintro e a ⟨q,y⟩;obtain⟨_,rfl,y,_⟩:=y.resolve_right (λh=>absurd h.1 Z);have z:Hid (fS a (w1.heap.size+1+1+1) (w1.heap.size+1+1) (w1.heap.size+4) (iD bc 0) (nF N) (DF N) (iT bc)):=by
  have h:=y.pr;rw[List.take_of_length_le Z] at h;exact h
 have W:Hid (H (λx=>w1.heap.size<=x) w1 a):=(U _).trans (q.mono λb hb h=>by
  have:=h1.pr.iu b h
  rcases this.2 with e|e|e<;>omega)
 have ab:w1.heap.size+4<=a.heap.size:=z.j.og;clear n q y h1 U D;obtain⟨lp,c,lc,yS,X⟩:=z.j.lines;have fZ:c=N:=by rw[ag8 X,Ka];omega
 subst fZ
 have ad:∀o,(a.alloc o).cell? ⟨w1.heap.size+1+1+1,0,none⟩=some (.slice lp c lc):=λo=>by
  rw[((H.refl (λ_=>False) a).alloc o).cell (p:=⟨w1.heap.size+1+1+1,0,none⟩) (by show w1.heap.size+1+1+1<_;omega) id];exact yS
 clear X;go_wp2_with fail;obtain⟨i,j⟩:∃i,a.alloc (.cells #[.slice none 0 0] 128)=i:=⟨_,rfl⟩
 have A:∀S:Z1,H S a i:=λS=>by rw[<-j];exact(H.refl _ _).alloc _
 have s6:i.heap.size=a.heap.size+1:=by rw[<-j];simp
 obtain⟨BW,An⟩:=z.j.only (A (λ_=>False)) (λ_ _ h=>h);have Cd:=Q.j.1;have F:dX a:=Q.j.only W.j (λh=>Z);have Jx:3<a.heap.size:=Z
 have G:Kb (w1.heap.size+1+1+1) (w1.heap.size+1+1) (w1.heap.size+4) a.heap.size (iD bc 0) (nF c) (DF c) (iT bc) cF 0 i:=by
  refine⟨BW,F.only (A (λ_=>False)) id,⟨Z,⟨none,0,0,?_,?_⟩,?_⟩,λb hb=>(z.j.iu b ((An b).1 hb)).1⟩
  ·rw[<-j,World.cell?_alloc_new];rfl
  ·rw[kU];exact World.ownsRow_nil _ _ _ _
  rw[<-j];exact World.frozen?_alloc_new _ _ _ _
 have NK:(iD bc 0).length=c:=by rw[Ka];omega
 have r:=aaS (f:=30) (Or.inr rfl) c c Z (M a.heap.size) (.pointer (some ⟨w1.heap.size+1+1+1,0,none⟩)) (Kb (w1.heap.size+1+1+1) (w1.heap.size+1+1) (w1.heap.size+4) a.heap.size (iD bc 0) (nF c) (DF c) (iT bc) cF) (ra a.heap.size) i (ahM Jx _ Z) G (Nat.le_refl _) 1 rfl (λk hk d hv=>step2 Jx k Z (m k) (dd k) (C k Z) (by have:=Jy k Z;rw[hN] at this;exact this) (DS k) (SH k) (dA k Z) d hv) (λh=>absurd h Z);rw[j];refine r.m ?_;rintro e w7 ⟨s,B⟩;obtain⟨_,rfl,B,_⟩:=B.resolve_right (λh=>absurd h.1 Z);have K:bc.length=c:=Z;have u:cF c≠[]:=by rw[<-K];exact iC
 obtain⟨qp,qk,qc,ae,rR⟩:=aof B.code u
 have ve:Hid (Zq w1 w7):=by
  have a1:H (λx=>w1.heap.size<=x) i w7:=s.mono λb _ hb=>by have:=(G.code.iu b hb).2;omega
  exact((W.j.trans (A _)).trans a1).mono λb hb h=>Z
 have fJ:Hid (bc.length=c):=K;clear r G s B BW An A j u K
 go_wp2
 go_ret3;refine⟨?_,ve.j⟩;rw[fJ.j];rfl
end
end Go.Proofs.YtdjlkahbpdoemaaGreatDoor

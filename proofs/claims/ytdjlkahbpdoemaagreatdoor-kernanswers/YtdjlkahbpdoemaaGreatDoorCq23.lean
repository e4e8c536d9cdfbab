import Derived.Test.YtdjlkahbpdoemaaGreatDoorCq21
import Derived.Test.YtdjlkahbpdoemaaGreatDoorCq22
set_option maxRecDepth 100000
set_option maxHeartbeats 8000000
set_option linter.unusedVariables false
set_option linter.unusedSimpArgs false
open Go Go.Vx Go.Proofs.Tryz Go.ChangeShapes Go.WideShapes Go.ChangeAt Go.RowKit
namespace Go.Proofs.YtdjlkahbpdoemaaGreatDoor
section
variable {kb mb sb pb qb bb tb:Nat}{U V S:Z1}{w wv w1 w2:Z0}{K K2:Kn}{F:List (Nat×Obj)}
variable {D:DataW Value}{ks:List Int}{G:Int->Nat}
theorem ai.on(h:ai U w kb mb sb pb qb bb tb D ks G F K wv)(c:∀V,aq V wv kb mb sb pb qb bb tb D ks G K->aq V w2 kb mb sb pb qb bb tb D ks G K2/\Zn V wv w2):ai U w kb mb sb pb qb bb tb D ks G F K2 w2:=by
 have⟨⟨V,h1,a,d⟩,e,f⟩:=h;have⟨g,b⟩:=c V d;exact⟨⟨V,h1,a,g⟩,λp hp=>H.keep b (e p hp) (λh=>h (a p hp)),f.trans (b.mono (λk _ i j=>i (h1 k j)))⟩
def bG(rg:Nat->Int)(x:Nat)(v:Int):Nat->Int:=λj=>if j=x then v else rg j
theorem aer(G t){x:Nat}(a:x<32)(v):(cG G t).toArray.setIfInBounds (2+x) (J v)=(cG G {t with rg:=bG t.rg x v}).toArray:=by
 rw[List.setIfInBounds_toArray];unfold cG;dsimp only;rw[List.set_append_right _ _ (by simp),List.set_append_left _ _ (by simp[mH];omega),show 2+x - [Value.int .i64 t.num,O t.st].length=x by simp,ags _ _ a];rfl
theorem LY(G t){x:Nat}(a:x<32):(cG G t).toArray[2+x]?=some (J (t.rg x)):=by
 rw[List.getElem?_toArray];unfold cG;rw[List.getElem?_append_right (by simp),List.getElem?_append_left (by simp[mH];omega),show 2+x - [Value.int .i64 t.num,O t.st].length=x by simp,agt _ _ a]
theorem aq.zN(h:aq U w kb mb sb pb qb bb tb D ks G K){i:Nat}(hi:i<K.T.length){x:Nat}(a:x<32):w.cell? ⟨G K.T[i].num,2+x,none⟩=some (J (K.T[i].rg x)):=(cell_of_row _ _ (2+x) _ _ (0,0) (h.th hi)).trans (LY G _ a)
theorem aq.Wo(h:aq U w kb mb sb pb qb bb tb D ks G K){i:Nat}(hi:i<K.T.length){x:Nat}(a:x<32)(v):aq U (w.setCell ⟨G K.T[i].num,2+x,none⟩ (J v)) kb mb sb pb qb bb tb D ks G (ba K i {K.T[i] with rg:=bG K.T[i].rg x v})/\Zn U w (w.setCell ⟨G K.T[i].num,2+x,none⟩ (J v)):=by
 have h1:=heap_setCell_same w (G K.T[i].num) (2+x) _ _ (J v) (h.th hi);rw[aer G _ a] at h1;exact h.yE hi (y:={K.T[i] with rg:=bG K.T[i].rg x v}) rfl ((H.refl (λk=>k=G K.T[i].num) w).setCell (p:=⟨G K.T[i].num,2+x,none⟩) (Or.inl rfl) _) h1
theorem aes(G t v):(cG G t).toArray.setIfInBounds 34 (J v)=(cG G {t with pc:=v}).toArray:=by
 rw[List.setIfInBounds_toArray];unfold cG;dsimp only;rw[List.set_append_right _ _ (by simp),List.set_append_right _ _ (by simp[mH]),show 34 - [Value.int .i64 t.num,O t.st].length - (ny IntKind.u32 t.rg).length=0 by simp[mH]];rfl
theorem zI(G t):(cG G t).toArray[34]?=some (J t.pc)/\(cG G t).toArray[35]?=some (lx G t.dV)/\(cG G t).toArray[36]?=some (lx G t.dD)/\(cG G t).toArray[37]?=some (.bool t.gr):=by
 simp only[List.getElem?_toArray];unfold cG;refine⟨?_,?_,?_,?_⟩;all_goals rw[List.getElem?_append_right (by simp),List.getElem?_append_right (by simp[mH])]
 all_goals simp[mH]
theorem Hv(G t n b):(cG G t).toArray.setIfInBounds 35 (lx G n)=(cG G {t with dV:=n}).toArray/\(cG G t).toArray.setIfInBounds 36 (lx G n)=(cG G {t with dD:=n}).toArray/\(cG G t).toArray.setIfInBounds 37 (.bool b)=(cG G {t with gr:=b}).toArray:=by
 refine⟨?_,?_,?_⟩;all_goals rw[List.setIfInBounds_toArray]
 all_goals unfold cG
 all_goals dsimp only
 all_goals rw[List.set_append_right _ _ (by simp),List.set_append_right _ _ (by simp[mH])]
 all_goals simp[mH]
theorem aq.GB(h:aq U w kb mb sb pb qb bb tb D ks G K){i:Nat}(hi:i<K.T.length)(c v){y:Kt}(hn:y.num=K.T[i].num)(hy:(cG G K.T[i]).toArray.setIfInBounds c v=(cG G y).toArray):aq U (w.setCell ⟨G K.T[i].num,c,none⟩ v) kb mb sb pb qb bb tb D ks G (ba K i y)/\Zn U w (w.setCell ⟨G K.T[i].num,c,none⟩ v):=by
 have h1:=heap_setCell_same w (G K.T[i].num) c _ _ v (h.th hi);rw[hy] at h1;exact h.yE hi (y:=y) hn ((H.refl (λk=>k=G K.T[i].num) w).setCell (p:=⟨G K.T[i].num,c,none⟩) (Or.inl rfl) _) h1
theorem aet(G t a b c d):((cG G t).toArray.toList.take 14++([Value.int .u32 a,J b,J c,J d]++(cG G t).toArray.toList.drop 18)).toArray=(cG G {t with rg:=bG (bG (bG (bG t.rg 12 a) 13 b) 14 c) 15 d}).toArray:=Zx
theorem aq.cpS(h:aq U w kb mb sb pb qb bb tb D ks G K){i:Nat}(hi:i<K.T.length)(a b c d):aq U (w.setRow (G K.T[i].num) ((cG G K.T[i]).toArray.toList.take 14++([Value.int .u32 a,J b,J c,J d]++(cG G K.T[i]).toArray.toList.drop 18)).toArray) kb mb sb pb qb bb tb D ks G (ba K i {K.T[i] with rg:=bG (bG (bG (bG K.T[i].rg 12 a) 13 b) 14 c) 15 d})/\Zn U w (w.setRow (G K.T[i].num) ((cG G K.T[i]).toArray.toList.take 14++([Value.int .u32 a,J b,J c,J d]++(cG G K.T[i]).toArray.toList.drop 18)).toArray):=by
 rw[aet];refine h.yE hi (y:={K.T[i] with rg:=bG (bG (bG (bG K.T[i].rg 12 a) 13 b) 14 c) 15 d}) rfl (ail w (G K.T[i].num) _) ?_;exact setRow_heap w _ _ _ _ _ (h.th hi)
end
section
variable {kb mb sb pb qb bb tb:Nat}{U V S:Z1}{w wv w1 w2:Z0}{K K2:Kn}{F:List (Nat×Obj)}
variable {D:DataW Value}{ks:List Int}{G:Int->Nat}{i:Nat}{y:Kt}
theorem Pg(K i y z):ba (ba K i y) i z=ba K i z:=by
 unfold ba;dsimp only;rw[List.set_set]
theorem A9(hi:i<K.T.length)(y):∃h:i<(ba K i y).T.length,(ba K i y).T[i]=y:=⟨by rw[km];exact hi,List.getElem_set_self _⟩
theorem ai.Mk(h:ai U w kb mb sb pb qb bb tb D ks G F (ba K i y) wv)(hi:i<K.T.length){x:Nat}(a:x<32)(v):ai U w kb mb sb pb qb bb tb D ks G F (ba K i {y with rg:=bG y.rg x v}) (wv.setCell ⟨G y.num,2+x,none⟩ (J v)):=by
 refine h.on (λV h=>?_);have⟨h1,b⟩:=A9 hi y;have c:=h.Wo h1 a v;rwa[b,Pg] at c
theorem ai.cp9(h:ai U w kb mb sb pb qb bb tb D ks G F (ba K i y) wv)(hi:i<K.T.length)(a b c d):ai U w kb mb sb pb qb bb tb D ks G F (ba K i {y with rg:=bG (bG (bG (bG y.rg 12 a) 13 b) 14 c) 15 d}) (wv.setRow (G y.num) ((cG G y).toArray.toList.take 14++([Value.int .u32 a,J b,J c,J d]++(cG G y).toArray.toList.drop 18)).toArray):=by
 refine h.on (λV h=>?_);have⟨h1,e⟩:=A9 hi y;have f:=h.cpS h1 a b c d;rwa[e,Pg] at f
theorem ai.P5(h:ai U w kb mb sb pb qb bb tb D ks G F (ba K i y) wv)(hi:i<K.T.length):wv.heap[G y.num]?=some (.cells (cG G y).toArray 109 (0,0)):=by
 have⟨⟨V,h1,e,a⟩,_,_⟩:=h;have⟨b,c⟩:=A9 hi y;have d:=a.th b;rwa[c] at d
theorem ai.N7(h:ai U w kb mb sb pb qb bb tb D ks G F (ba K i y) wv)(hi:i<K.T.length){x:Nat}(a:x<32):wv.cell? ⟨G y.num,2+x,none⟩=some (J (y.rg x))/\wv.frozen? ⟨G y.num,2+x,none⟩=false:=⟨(cell_of_row _ _ (2+x) _ _ (0,0) (h.P5 hi)).trans (LY G _ a),fX (h.P5 hi) _⟩
theorem adA{i:Nat}(hi:i<K.T.length):ba K i K.T[i]=K:=U4 hi (dQ hi).symm
theorem apn(rg m):bG (bG (bG (bG (bG (bG (bG (bG rg 10 0) 11 m.ak) 12 m.w0) 13 m.w1) 14 m.w2) 15 m.w3) 16 m.aQ) 17 0=qO rg m:=by
 funext x;unfold bG qO;by_cases h:x<10\/17<x
 ·rw[if_neg Z,if_neg Z,if_neg Z,if_neg Z,if_neg Z,if_neg Z,if_neg Z,if_neg Z,if_neg Z,if_neg Z,if_neg Z,if_neg Z,if_neg Z,if_neg Z,if_neg Z,if_neg Z]
 have:x=10\/x=11\/x=12\/x=13\/x=14\/x=15\/x=16\/x=17:=Z;rcases this with rfl|rfl|rfl|rfl|rfl|rfl|rfl|rfl<;>rfl
theorem Vj{n:Int}(hf:da K.T n=some i){y:Kt}(hy:y.num=n):da (ba K i y).T n=some i:=Vk hf hy
theorem abw(h:aq U w kb mb sb pb qb bb tb D ks G K)(hi:i<K.T.length)(hn:af K.T[i].num)(hf:da K.T K.T[i].num=some i)(m):Zk 189 #[M kb,.pointer (some ⟨G K.T[i].num,0,none⟩),mL m] w λe w'=>Zr e (.tuple #[])/\aq U w' kb mb sb pb qb bb tb D ks G (kh K i m)/\Zn U w w':=by
 have⟨KE,d⟩:=Ze (kh K i m);rw[<-d];unfold kh at d;rw[dQ hi,<-apn] at d;rw[show mL m=.agg #[J m.ak,J m.w0,J m.w1,J m.w2,J m.w3,J m.aQ] from rfl];have⟨y,hy⟩:=Ze (K.T[i]);have⟨w1,t⟩:=Ze (w.alloc (.cells #[J m.ak,J m.w0,J m.w1,J m.w2,J m.w3,J m.aQ] 172));have⟨ob,u⟩:=Ze (w.heap.size);have H1:Hid (ai U w kb mb sb pb qb bb tb D ks G [(ob,.cells #[J m.ak,J m.w0,J m.w1,J m.w2,J m.w3,J m.aQ] 172 (0,0))] (ba K i y) w1):=by rw[t,u,hy,adA hi];exact(ai.start h).alloc _
 rw[<-hy] at d hn hf|-;have b:=Y hi
 have z:Hid (∀R wv,ai U w kb mb sb pb qb bb tb D ks G [(ob,.cells #[J m.ak,J m.w0,J m.w1,J m.w2,J m.w3,J m.aQ] 172 (0,0))] R wv->wv.cell? (E ob 0)=some (J m.ak)/\wv.cell? (E ob 5)=some (J m.aQ)/\∀j v,[Value.int .u32 m.w0,J m.w1,J m.w2,J m.w3][j]?=some v->wv.cell? (((E ob 1):Addr).add j)=some v):=λR wv h=>by
  have hr:=h.at List.mem_cons_self;refine⟨Zl hr,Zl hr,λj v l=>?_⟩;rw[addr_add,cell_of_row _ _ _ _ _ (0,0) hr];have:j=0\/j=1\/j=2\/j=3\/4<=j:=Z;rcases this with rfl|rfl|rfl|rfl|h4
  ·exact l
  ·exact l
  ·exact l
  ·exact l
  rw[List.getElem?_eq_none (by simpa using h4)] at l;cases l
 have⟨y6,A⟩:=Ze ({y with rg:=bG (bG (bG (bG (bG (bG (bG (bG y.rg 10 0) 11 m.ak) 12 m.w0) 13 m.w1) 14 m.w2) 15 m.w3) 16 m.aQ) 17 0}:Kt);rw[<-A] at d;have T:Hid (∀wv,ai U w kb mb sb pb qb bb tb D ks G [(ob,.cells #[J m.ak,J m.w0,J m.w1,J m.w2,J m.w3,J m.aQ] 172 (0,0))] (ba K i y6) wv->Zk 61 #[M kb,.pointer (some ⟨G y.num,0,none⟩),O 1] wv λe w'=>Zr e (.tuple #[])/\Hid (ai U w kb mb sb pb qb bb tb D ks G [(ob,.cells #[J m.ak,J m.w0,J m.w1,J m.w2,J m.w3,J m.aQ] 172 (0,0))] KE w')):=λwv h=>h.call (λV h=>by
  have⟨h1,B⟩:=A9 hi y6;have r:y6.num=y.num:=by rw[A]
  have W:=Hk h h1 (by rw[B,r];exact hn) (by rw[B,r];exact Vj hf r) 1;rw[B,r] at W;rw[d];exact W)
 have⟨g,hg⟩:=Ze (G y.num);have n:=Y hg;have⟨c0,f0⟩:=H1.j.N7 hi (x:=10) I;have f:=Y (H1.j.Mk hi (x:=10) I 0);rw[<-hg] at c0 f0 f T|-;obtain⟨w2,C⟩:=Ze (w1.setCell (E g 12) (J 0));replace f:Hid (ai U w kb mb sb pb qb bb tb D ks G [(ob,.cells #[J m.ak,J m.w0,J m.w1,J m.w2,J m.w3,J m.aQ] 172 (0,0))] (ba K i {y with rg:=bG y.rg 10 0}) w2):=by rw[C];exact f.j
 generalize y.rg 10=Fu at c0;clear h hi hn hf d hy hg;go_enter func189,ntmps189;go_upto_region 2 with fail
 rw[<-t,<-u];clear t u;go_upto_region 3 with fail
 rw[show(12:Nat)=12 from rfl,<-C];clear C c0 f0;have a:=Y (z.j _ _ f.j.drew).1;refine sx (S:=(λwv=>wv.cell? (E ob 0)=some (J m.ak))) 5 Zx Zg Zx ?_;simp only[jM,oC,List.setIfInBounds_toArray,List.set_cons_zero,List.set_cons_succ,List.size_toArray,List.length_cons,List.length_nil,Nat.zero_add,Nat.reduceAdd];refine Zt 0 a.j ?_;refine Zt 1 a.j ?_;refine Zt 2 a.j ?_;refine Zt 3 a.j ?_;refine Zt 4 a.j ?_;refine wpAnyH_take (i:=5) (v:=undef) Zg Zx Zx Zx (by exact λ_ _ _ h=>h) (Or.inr ⟨by rfl,rfl⟩) a.j ?_;refine wpAnyH_done Zx ?_ _;simp only[p8];obtain⟨c0,f0⟩:=f.j.drew.N7 b.j (x:=11) I;have c:=Y (f.j.Mk b.j (x:=11) I m.ak).drew;dsimp only at c0 f0 c;rw[<-n.j] at c0 f0 c;generalize ({y with rg:=bG y.rg 10 0}:Kt).rg 11=r9 at c0;obtain⟨w3,F⟩:=Ze ((w2.setCell (E g 13) (J m.ak)).drew);replace c:Hid (ai U w kb mb sb pb qb bb tb D ks G [(ob,.cells #[J m.ak,J m.w0,J m.w1,J m.w2,J m.w3,J m.aQ] 172 (0,0))] (ba K i {y with rg:=bG (bG y.rg 10 0) 11 m.ak}) w3):=by rw[F];exact c.j
 go_upto_region 4 with fail
 rw[<-F];clear F c0 f0 a;refine sx (S:=(λ_=>True)) 5 Zx Zg Zx ?_;simp only[jM,oC,List.setIfInBounds_toArray,List.set_cons_zero,List.set_cons_succ,List.size_toArray,List.length_cons,List.length_nil,Nat.zero_add,Nat.reduceAdd];refine Zt 0 trivial ?_;refine Zt 1 trivial ?_;refine Zt 2 trivial ?_;refine Zt 3 trivial ?_;refine Zt 4 trivial ?_;refine wpAnyH_take (i:=5) (v:=undef) Zg Zx Zx Zx (by exact λ_ _ _ h=>h) (Or.inr ⟨by rfl,rfl⟩) trivial ?_;refine wpAnyH_done Zx ?_ _;simp only[p8];obtain⟨cur,s⟩:=Ze ((cG G {y with rg:=bG (bG y.rg 10 0) 11 m.ak}).toArray);have X:Hid (w3.drew.heap[g]?=some (.cells cur 109 (0,0))):=by rw[n.j,s];exact c.j.drew.P5 b.j
 have o:Hid (ai U w kb mb sb pb qb bb tb D ks G [(ob,.cells #[J m.ak,J m.w0,J m.w1,J m.w2,J m.w3,J m.aQ] 172 (0,0))] (ba K i {y with rg:=bG (bG (bG (bG (bG (bG y.rg 10 0) 11 m.ak) 12 m.w0) 13 m.w1) 14 m.w2) 15 m.w3}) (w3.drew.setRow g (cur.toList.take 14++([Value.int .u32 m.w0,J m.w1,J m.w2,J m.w3]++cur.toList.drop 18)).toArray)):=by rw[n.j,s];exact c.j.drew.cp9 b.j m.w0 m.w1 m.w2 m.w3
 have p:Hid (14+4<=cur.size):=by show _<=_;rw[s];simp[cG,mH]
 clear s;obtain⟨w4,N⟩:=Ze (w3.drew.setRow g (cur.toList.take 14++([Value.int .u32 m.w0,J m.w1,J m.w2,J m.w3]++cur.toList.drop 18)).toArray);rw[<-N] at o;have KK:=Y (z.j _ _ c.j.drew).2.2;refine UQ (.tmp 21) (.tmp 23) 39 39 rfl 27 underlying39 U6 g 14 20 20 (E ob 1) 4 4 rfl rfl cur _ X.j [J m.w0,J m.w1,J m.w2,J m.w3] rfl KK.j p.j (by simp[Value.oneCell']) ?_;show Exit.then _ _ _ _ (w3.drew.setRow g (cur.toList.take 14++([Value.int .u32 m.w0,J m.w1,J m.w2,J m.w3]++cur.toList.drop 18)).toArray);rw[<-N];clear N X p KK;have a:=Y (z.j _ _ o.j.drew).2.1;go_upto_region 5 with fail
 refine sx (S:=(λwv=>wv.cell? (E ob 5)=some (J m.aQ))) 5 Zx Zg Zx ?_;simp only[jM,oC,List.setIfInBounds_toArray,List.set_cons_zero,List.set_cons_succ,List.size_toArray,List.length_cons,List.length_nil,Nat.zero_add,Nat.reduceAdd];refine Zt 0 a.j ?_;refine Zt 1 a.j ?_;refine Zt 2 a.j ?_;refine Zt 3 a.j ?_;refine Zt 4 a.j ?_;refine wpAnyH_take (i:=5) (v:=undef) Zg Zx Zx Zx (by exact λ_ _ _ h=>h) (Or.inr ⟨by rfl,rfl⟩) a.j ?_;refine wpAnyH_done Zx ?_ _;simp only[p8];obtain⟨c0,f0⟩:=o.j.drew.N7 b.j (x:=16) I;have k:=Y (o.j.Mk b.j (x:=16) I m.aQ).drew;dsimp only at c0 f0 k;rw[<-n.j] at c0 f0 k;generalize ({y with rg:=bG (bG (bG (bG (bG (bG y.rg 10 0) 11 m.ak) 12 m.w0) 13 m.w1) 14 m.w2) 15 m.w3}:Kt).rg 16=r9 at c0;obtain⟨w5,P⟩:=Ze ((w4.setCell (E g 18) (J m.aQ)).drew);replace k:Hid (ai U w kb mb sb pb qb bb tb D ks G [(ob,.cells #[J m.ak,J m.w0,J m.w1,J m.w2,J m.w3,J m.aQ] 172 (0,0))] (ba K i {y with rg:=bG (bG (bG (bG (bG (bG (bG y.rg 10 0) 11 m.ak) 12 m.w0) 13 m.w1) 14 m.w2) 15 m.w3) 16 m.aQ}) w5):=by rw[P];exact k.j
 obtain⟨c1,f1⟩:=k.j.N7 b.j (x:=17) I;have q:=Y (k.j.Mk b.j (x:=17) I 0);dsimp only at c1 f1 q;rw[<-n.j] at c1 f1 q;generalize (({y with rg:=bG (bG (bG (bG (bG (bG (bG y.rg 10 0) 11 m.ak) 12 m.w0) 13 m.w1) 14 m.w2) 15 m.w3) 16 m.aQ}:Kt)).rg 17=Dw at c1;obtain⟨w6,Q⟩:=Ze (w5.setCell (E g 19) (J 0));replace q:Hid (ai U w kb mb sb pb qb bb tb D ks G [(ob,.cells #[J m.ak,J m.w0,J m.w1,J m.w2,J m.w3,J m.aQ] 172 (0,0))] (ba K i y6) w6):=by rw[Q,A];exact q.j
 go_upto_region 6 with fail
 rw[<-P];clear P c0 f0 a;go_upto_region 7 with fail
 rw[<-Q];clear Q c1 f1 k o c f H1;go_wp2_with fail;refine(T.j _ q.j).m ?_;rintro e w7 ⟨rfl,H7⟩;go_wp2_with fail
 all_goals
  go_end0;exact⟨rfl,H7.j.fin⟩
end
section
structure Pm where
 k:Nat
 Q:Nat->Qn
 dm:Nat->Nat
 a:Int
 b:Int
 c:Int
structure j0(P:Pm):Prop where
 Q:∀c,uY (P.Q c)
 bd:∀c,c<P.k->(P.Q c).bd=100+c
 dm:∀i,P.dm i<3
 k:P.k<=4
def iH(R:Nat->Nat):Nat->Int:=λx=>(R x:Int)
def vG(p:Nat):Int:=((4096+4*p:Nat):Int)
def aa3(s:Int):Nat:=if s=3\/s=5 then 1 else 0
def J1(Q:Qn)(c j:Nat)(s:Int)(gr:Bool):Kt:=⟨aD (c+1),s, -1,if s=5 then aD 0 else -1,gr,iH (RC Q j),vG (j+aa3 s)⟩
structure aqd(Q:Qn)(j:Nat)(s:Int):Prop where
 lj:j<=17*Q.m
 ls:s=0\/s=1\/s=3\/s=5
 le:s=0->j=17*Q.m
 lh:s=3\/s=5->j<17*Q.m/\j % 17=12
def Bc(dV s:Int)(gr:Bool)(W:Nat->Nat)(p:Nat):Kt:=⟨aD 0,s,dV, -1,gr,iH W,vG p⟩
abbrev Sm:=Nat⊕(((Nat->Nat)×Nat)⊕((Nat×Nat)⊕(Nat⊕((Nat->Nat)×Nat))))
abbrev Sm.nK(p:Nat):Sm:=.inl p
abbrev Sm.dD(W:Nat->Nat)(p:Nat):Sm:=.inr (.inl (W,p))
abbrev Sm.mF(c p:Nat):Sm:=.inr (.inr (.inl (c,p)))
abbrev Sm.jmp(c:Nat):Sm:=.inr (.inr (.inr (.inl c)))
abbrev Sm.get(W:Nat->Nat)(p:Nat):Sm:=.inr (.inr (.inr (.inr (W,p))))
theorem Sm.cs{motive:Sm->Prop}(nK:∀p,motive (.nK p))(dD:∀W p,motive (.dD W p))(mF:∀c p,motive (.mF c p))(jmp:∀c,motive (.jmp c))(get:∀W p,motive (.get W p))(m:Sm):motive m:=by
 rcases m with p|⟨W,p⟩|⟨c,p⟩|c|⟨W,p⟩
 ·exact nK p
 ·exact dD W p
 ·exact mF c p
 ·exact jmp c
 exact get W p
def Sm.dV:Sm->Int
 |.inl _=> -1
 |.inr (.inl (_,_))=> -1
 |.inr (.inr (.inl (c,_)))=>aD (c+1)
 |.inr (.inr (.inr (.inl c)))=>aD (c+1)
 |.inr (.inr (.inr (.inr (_,_))))=> -1
def Sm.s:Sm->Int
 |.inr (.inl (_,_))=>4
 |_=>1
def Sm.W(P:Pm)(j:Nat->Nat):Sm->Nat->Nat
 |.inl p=>SI p
 |.inr (.inl (W,_))=>W
 |.inr (.inr (.inl (c,p)))=>SV (RC (P.Q c) (j c)) (100+c) p
 |.inr (.inr (.inr (.inl c)))=>SV (RC (P.Q c) (j c)) (100+c) 0
 |.inr (.inr (.inr (.inr (W,_))))=>W
def Sm.p:Sm->Nat
 |.inl p=>p
 |.inr (.inl (_,p))=>p
 |.inr (.inr (.inl (_,p)))=>7+p
 |.inr (.inr (.inr (.inl _)))=>19
 |.inr (.inr (.inr (.inr (_,p))))=>p
def Sm.loc:Sm->Nat
 |.inl p=>7 - p
 |.inr (.inl (_,_))=>0
 |.inr (.inr (.inl (_,p)))=>12 - p
 |.inr (.inr (.inr (.inl _)))=>13
 |.inr (.inr (.inr (.inr (_,_))))=>1
def Sm.cu:Sm->Option Nat
 |.inr (.inr (.inl (c,_)))=>some c
 |.inr (.inr (.inr (.inl c)))=>some c
 |_=>none
def Sm.ok(k:Nat):Sm->Prop
 |.inl p=>p<=6
 |.inr (.inl (W,p))=>Bq W/\(p=7\/p=19)
 |.inr (.inr (.inl (c,p)))=>c<k/\p<=11
 |.inr (.inr (.inr (.inl c)))=>c<k
 |.inr (.inr (.inr (.inr (W,p))))=>Bq W/\(p=7\/p=19)
def qt(Q:Qn)(j c:Nat):Ms:=⟨(RC Q j 11:Int),(RC Q j 12:Int),(RC Q j 13:Int),(RC Q j 14:Int),(RC Q j 15:Int),((100+c:Nat):Int)⟩
def kj(P:Pm)(j:Nat->Nat)(c:Nat):Wt:=⟨0,aD (c+1),3,qt (P.Q c) (j c) c⟩
structure KI(P:Pm)(K0 K:Kn)(j:Nat->Nat)(st:Nat->Int)(q:List Nat)(m:Sm):Prop where
 fx:Fx K0 K
 ts:K0.ts=kI P.a P.b P.c
 len:K.T.length=P.k+1
 cl:∀c,c<P.k->aqd (P.Q c) (j c) (st (c+1))/\∃gr,aw K (c+1)=J1 (P.Q c) c (j c) (st (c+1)) gr
 sv:∃gr,aw K 0=Bc m.dV (st 0) gr (m.W P j) m.p
 s0:st 0=m.s
 ok:m.ok P.k
 cu:∀c,c<P.k->(st (c+1)=5↔m.cu=some c)
 ws:K.b=⟨[⟨0,false,0⟩],if m.s=4 then [⟨0,aD 0,4,mg⟩] else q.map (kj P j)⟩
 qn:q.Nodup
 qi:∀c,c∈q↔c<P.k/\st (c+1)=3
 qe:m.s=4->q=[]
 sd:hY P.k (λi=>(P.dm i:Int)) st K.ss
 sw:cU K.ss K.ck
 tn:CE P.a P.b P.c K.t K.lf
def oB(Q:Qn)(j:Nat)(s:Int):Nat:=if s=0 then 0 else 17*Q.m+1 - j - aa3 s
def p9(Q:Qn)(j:Nat)(s:Int):Nat:=Q.m - (j+4)/17 - (if s=5 then 1 else 0)
def Bj(P:Pm)(j:Nat->Nat)(st:Nat->Int):Nat:=oz P.k (λc=>oB (P.Q c) (j c) (st (c+1)))
def Dm(P:Pm)(j:Nat->Nat)(st:Nat->Int):Nat:=oz P.k (λc=>p9 (P.Q c) (j c) (st (c+1)))
def fV(P:Pm)(j:Nat->Nat)(st:Nat->Int)(m:Sm):Nat:=Bj P j st+13*Dm P j st+m.loc
theorem Ik{P:Pm}{j j2:Nat->Nat}{st st2:Nat->Int}{c:Nat}(b:c<P.k)(h:∀x,x≠c->j2 x=j x/\st2 (x+1)=st (x+1)):Bj P j2 st2+oB (P.Q c) (j c) (st (c+1))=Bj P j st+oB (P.Q c) (j2 c) (st2 (c+1))/\Dm P j2 st2+p9 (P.Q c) (j c) (st (c+1))=Dm P j st+p9 (P.Q c) (j2 c) (st2 (c+1)):=
 ⟨PR (λc=>oB (P.Q c) (j c) (st (c+1))) (λc=>oB (P.Q c) (j2 c) (st2 (c+1))) c P.k b (λx a=>by rw[(h x a).1,(h x a).2]),PR (λc=>p9 (P.Q c) (j c) (st (c+1))) (λc=>p9 (P.Q c) (j2 c) (st2 (c+1))) c P.k b (λx a=>by rw[(h x a).1,(h x a).2])⟩
theorem VN(f:Nat->Nat)(c:Nat):∀k,c<k->f c<=oz k f
 |0,h=>Z
 |k+1,h=>by
  show f c<=oz k f+f k;by_cases e:c=k
  ·subst e;omega
  have:=VN f c k Z;omega
variable {P:Pm}{K0 K K2:Kn}{j:Nat->Nat}{st:Nat->Int}{q:List Nat}{m:Sm}
theorem apQ{c:Nat}(h:m.cu≠some c)(v):m.W P (eJ j c v)=m.W P j:=by
 cases m using Sm.cs with
 |nK p=>rfl
 |dD W p=>rfl
 |get W p=>rfl
 |mF d p=>
  have:d≠c:=λe=>h (by rw[e];rfl);simp only[Sm.W,dY j v this]
 |jmp d=>
  have:d≠c:=λe=>h (by rw[e];rfl);simp only[Sm.W,dY j v this]
theorem UP{c:Nat}(h:c∉q)(v):q.map (kj P (eJ j c v))=q.map (kj P j):=List.map_congr_left λx a=>by
 unfold kj;rw[dY j v (λe=>h (by rw[<-e];exact a))]
theorem hY.aoc{k:Nat}{dm st st2:Nat->Int}{ss:List Et}(h:hY k dm st ss)(f:∀i,st2 i=1↔st i=1):hY k dm st2 ss:=⟨λi hi=>by
 obtain⟨e,a,b,c,d⟩:=h.has i hi
 exact⟨e,a,b,c,d.trans (f i).symm⟩,h.all⟩
theorem Hx{k:Nat}{dm st:Nat->Int}(h:hY k dm st K.ss)(hw:cU K.ss K.ck){i:Nat}(hi:i<=k)(hn:(aw K i).num=aD i)(hs:(aw K i).st=st i)(s):hY k dm (eJ st i s) (gj K i s).ss/\cU (gj K i s).ss (gj K i s).ck:=by
 unfold gj;rw[hs,hn];by_cases h1:st i≠1/\s=1
 ·rw[if_pos h1];have⟨a,c⟩:=h.ready hw hi h1.1;dsimp only;rw[if_pos a,if_pos a,h1.2];refine⟨c,?_⟩;have b:=hw.last (aD i);have⟨x,e,_⟩:=h.find hw hi;rwa[e] at b
 rw[if_neg h1];by_cases a:st i=1/\s≠1
 ·rw[if_pos a];have⟨c,b⟩:=h.block hw hi a.1 a.2;dsimp only;rw[if_pos c];exact⟨b,hw.block _⟩
 rw[if_neg a];refine⟨h.aoc (λx=>?_),hw⟩;by_cases c:x=i
 ·subst c;rw[iF];constructor
  ·intro b;exact Classical.byContradiction λd=>h1 ⟨d,b⟩
  intro b;exact Classical.byContradiction λd=>a ⟨b,d⟩
 rw[dY _ _ c]
theorem KI.next(h:KI P K0 K j st q m):KI P K0 (bJ K) j st q m:=by
 refine⟨h.fx.trans ⟨rfl,rfl,rfl,rfl,rfl,rfl,rfl,rfl,rfl,rfl,rfl⟩,h.ts,h.len,h.cl,h.sv,h.s0,h.ok,h.cu,h.ws,h.qn,h.qi,h.qe,(h.sd.next h.sw _).1,h.sw.next _,?_⟩;show CE _ _ _ (kH K.ts K.t K.lf) (ov K.ts K.t K.lf);rw[h.fx.ts.trans h.ts];exact h.tn.next
theorem KI.num(h:KI P K0 K j st q m){i:Nat}(hi:i<=P.k):(aw K i).num=aD i/\(aw K i).st=st i:=by
 cases i with
 |zero=>
  have⟨gr,e⟩:=h.sv;rw[e];exact⟨rfl,rfl⟩
 |succ c=>
  have⟨_,gr,e⟩:=h.cl c Z;rw[e];exact⟨rfl,rfl⟩
theorem KI.LP(h:KI P K0 K j st q m):(nC K= -1/\∀i,i<=P.k->P.dm i=kH K.ts K.t K.lf->st i≠1)\/∃i,i<=P.k/\nC K=aD i/\st i=1:=by
 have b:=(h.fx.ts.trans h.ts)▸adF h.tn;rcases(h.sd.next h.sw (tY K.ts K.t K.lf)).2 with⟨h1,a⟩|⟨i,h1,a,c,_⟩
 ·exact Or.inl ⟨h1,λi hi d=>a i hi (by rw[b,d])⟩
 exact Or.inr ⟨i,h1,a,c⟩
theorem KI.aol(h:KI P K0 K j st q m){c:Nat}(a:c<P.k)(h1:st (c+1)=1)(s:j c<17*(P.Q c).m)(t:j c % 17≠12):KI P K0 (ba K (c+1) {aw K (c+1) with rg:=iH (RC (P.Q c) (j c+1)),pc:=vG (j c+1)}) (eJ j c (j c+1)) st q m/\fV P (eJ j c (j c+1)) st m+1=fV P j st m:=by
 have b:c+1<K.T.length:=by rw[h.len];omega
 have f:m.cu≠some c:=λe=>by have:=(h.cu c a).2 e;omega
 have g:c∉q:=λe=>by have:=(h.qi c).1 e;omega
 have⟨u,gr,i⟩:=h.cl c a;refine⟨⟨h.fx.trans (Fx.up _ _ _),h.ts,by rw[km];exact h.len,λd k=>?_,?_,h.s0,h.ok,h.cu,?_,h.qn,h.qi,h.qe,h.sd,h.sw,h.tn⟩,?_⟩
 ·rw[lG b];by_cases e:d=c
  ·subst e;rw[if_pos rfl,iF,h1];refine⟨⟨Z,Or.inr (Or.inl rfl),λl=>Z,λl=>Z⟩,gr,?_⟩;rw[i,h1];rfl
  rw[if_neg Z,dY _ _ e];exact h.cl d k
 ·rw[lG b,if_neg Z,apQ f];exact h.sv
 ·rw[UP g];exact h.ws
 have⟨r1,r2⟩:=Ik (P:=P) (j:=j) (j2:=eJ j c (j c+1)) (st:=st) (st2:=st) a (λx n=>⟨dY _ _ n,rfl⟩);rw[iF,h1] at r1 r2;have e1:oB (P.Q c) (j c) 1=17*(P.Q c).m+1 - j c:=rfl;have o:oB (P.Q c) (j c+1) 1=17*(P.Q c).m+1 - (j c+1):=rfl;have p:p9 (P.Q c) (j c) 1=(P.Q c).m - (j c+4)/17:=rfl;have r:p9 (P.Q c) (j c+1) 1=(P.Q c).m - (j c+1+4)/17:=rfl;rw[e1,o] at r1;rw[p,r] at r2;unfold fV;omega
theorem KI.aok(h:KI P K0 K j st q m){c:Nat}(b:c<P.k)(h1:st (c+1)=1)(g:j c=17*(P.Q c).m):KI P K0 (gj K (c+1) 0) j (eJ st (c+1) 0) q m/\fV P j (eJ st (c+1) 0) m+1=fV P j st m:=by
 have f:c+1<K.T.length:=by rw[h.len];omega
 have⟨s,gr,k⟩:=h.cl c b;have⟨l,n,o⟩:=Fi K (c+1) 0;have⟨s1,s2⟩:=Hx h.sd h.sw (i:=c+1) Z (h.num Z).1 (h.num Z).2 0;refine⟨⟨h.fx.trans (Fx.st _ _ _),h.ts,by rw[Hy];exact h.len,λd a=>?_,?_,?_,h.ok,λd a=>?_,l▸h.ws,h.qn,λd=>?_,h.qe,s1,s2,n▸o▸h.tn⟩,?_⟩
 ·rw[BC f];by_cases e:d=c
  ·subst e;rw[if_pos rfl,iF];refine⟨⟨Z,Or.inl rfl,λ_=>g,λt=>Z⟩,gr,?_⟩;rw[k,h1];rfl
  rw[if_neg Z,dY _ _ Z];exact h.cl d a
 ·rw[BC f,if_neg Z,dY _ _ Z];exact h.sv
 ·rw[dY _ _ Z];exact h.s0
 ·by_cases e:d=c
  ·subst e;rw[iF,<-h.cu d a,h1];omega
  rw[dY _ _ Z];exact h.cu d a
 ·rw[h.qi d];by_cases e:d=c
  ·subst e;rw[iF,h1];omega
  rw[dY _ _ Z]
 have⟨r1,r2⟩:=Ik (P:=P) (j:=j) (j2:=j) (st:=st) (st2:=eJ st (c+1) 0) b (λx u=>⟨rfl,dY _ _ Z⟩);rw[iF,h1] at r1 r2;have e1:oB (P.Q c) (j c) 1=17*(P.Q c).m+1 - j c:=rfl;have p:oB (P.Q c) (j c) 0=0:=rfl;have r:p9 (P.Q c) (j c) 1=p9 (P.Q c) (j c) 0:=rfl;rw[e1,p] at r1;rw[r] at r2;unfold fV;omega
end
section
variable {P:Pm}{K0 K K2:Kn}{j:Nat->Nat}{st:Nat->Int}{q:List Nat}{m:Sm}{g s i c:Nat}
theorem Ez(K i m):(kh K i m).T.length=K.T.length:=by unfold kh;rw[Hy,km]
theorem Ey(hi:i<K.T.length)(m x):aw (kh K i m) x=if x=i then {aw K i with rg:=qO (aw K i).rg m,st:=1} else aw K x:=by
 unfold kh;rw[BC (by rw[km];exact hi),lG hi,lG hi,if_pos rfl];by_cases h:x=i
 ·rw[if_pos h,if_pos h]
 rw[if_neg h,if_neg h,if_neg h]
theorem Qy(K g s):(vH K g s).T.length=K.T.length:=by unfold vH;rw[km,km]
theorem Iu(hg:g<K.T.length)(hs:s<K.T.length)(x):aw (vH K g s) x=if x=s then {aw K s with dD:=(aw K g).num} else if x=g then {aw K g with dV:=(aw K s).num} else aw K x:=by
 unfold vH;rw[lG (by rw[km];exact hs),lG hg]
theorem ajn(K s g m):(oE K s g m).T.length=K.T.length:=by unfold oE;rw[Hy,Qy,Ez]
theorem ajk(hg:g<K.T.length)(hs:s<K.T.length)(hn:g≠s)(m x):aw (oE K s g m) x=if x=s then {aw K s with dD:=(aw K g).num,st:=5} else if x=g then {aw K g with rg:=qO (aw K g).rg m,st:=1,dV:=(aw K s).num} else aw K x:=by
 unfold oE;have l1:g<(kh K g m).T.length:=by rw[Ez];exact hg
 have b:s<(kh K g m).T.length:=by rw[Ez];exact hs
 have c:=λy=>Iu (K:=kh K g m) l1 b y;have d:aw (kh K g m) g={aw K g with rg:=qO (aw K g).rg m,st:=1}:=by rw[Ey hg,if_pos rfl]
 have a9:aw (kh K g m) s=aw K s:=by rw[Ey hg,if_neg (λh=>hn h.symm)]
 rw[λy=>BC (K:=vH (kh K g m) g s) (i:=s) (by rw[Qy];exact b) 5 y,c s,if_pos rfl];by_cases h:x=s
 ·rw[if_pos h,if_pos h,a9,d]
 rw[if_neg h,if_neg h,c x,if_neg h];by_cases a:x=g
 ·rw[if_pos a,if_pos a,a9,d]
 rw[if_neg a,if_neg a,Ey hg,if_neg a]
theorem ajl(K s g m):(oE K s g m).b=K.b/\(oE K s g m).t=K.t/\(oE K s g m).lf=K.lf:=by
 have⟨a,a2,a3⟩:=Fi (vH (kh K g m) g s) s 5;have⟨b,c,d⟩:=Fi (ba K g {aw K g with rg:=qO (aw K g).rg m}) g 1;exact⟨a.trans b,a2.trans c,a3.trans d⟩
theorem Fx.vW(K i m):Fx K (kh K i m):=(Fx.up _ _ _).trans (Fx.st _ _ _)
theorem Fx.meet(K s g m):Fx K (oE K s g m):=(Fx.vW K g m).trans (((Fx.up _ _ _).trans (Fx.up _ _ _)).trans (Fx.st _ _ _))
theorem abx{k:Nat}{dm st:Nat->Int}(h:hY k dm st K.ss)(hw:cU K.ss K.ck)(hi:i<=k)(a:i<K.T.length)(hn:(aw K i).num=aD i/\(aw K i).st=st i)(m):hY k dm (eJ st i 1) (kh K i m).ss/\cU (kh K i m).ss (kh K i m).ck:=
 Hx (K:=ba K i {aw K i with rg:=qO (aw K i).rg m}) h hw hi (by rw[lG a,if_pos rfl];exact hn.1) (by rw[lG a,if_pos rfl];exact hn.2) 1
theorem ajf{k:Nat}{dm st:Nat->Int}(h:hY k dm st K.ss)(hw:cU K.ss K.ck)(hg:g<=k)(hs:s<=k)(a:g<K.T.length)(d:s<K.T.length)(b:g≠s)(e:(aw K g).num=aD g/\(aw K g).st=st g)(ns:(aw K s).num=aD s/\(aw K s).st=st s)(m):hY k dm (eJ (eJ st g 1) s 5) (oE K s g m).ss/\cU (oE K s g m).ss (oE K s g m).ck:=by
 have⟨f,a2⟩:=abx h hw hg a e m;have l1:g<(kh K g m).T.length:=by rw[Ez];exact a
 have c:s<(kh K g m).T.length:=by rw[Ez];exact d
 refine Hx (K:=vH (kh K g m) g s) f a2 hs ?_ ?_ 5
 ·rw[Iu l1 c,if_pos rfl,Ey a,if_neg (λh=>b h.symm)];exact ns.1
 rw[Iu l1 c,if_pos rfl,Ey a,if_neg (λh=>b h.symm),dY _ _ (λh=>b h.symm)];exact ns.2
theorem apq{W:Nat->Nat}(a:Bq W)(Q j c):qO (iH W) (qt Q j c)=iH (uT (RC Q j) (100+c)):=by
 rw[<-apu (R:=RC Q j) a (100+c)];funext x;unfold qO iH qt;dsimp only;by_cases h:x<10\/17<x
 ·rw[if_neg Z,if_neg Z,if_neg Z,if_neg Z,if_neg Z,if_neg Z,if_neg Z,if_neg Z,if_neg Z,if_neg Z,if_neg Z,if_neg Z,if_neg Z,if_neg Z,if_neg Z,if_neg Z]
 have:x=10\/x=11\/x=12\/x=13\/x=14\/x=15\/x=16\/x=17:=Z;rcases this with rfl|rfl|rfl|rfl|rfl|rfl|rfl|rfl<;>rfl
theorem apo{R:Nat->Nat}{bd:Nat}(a:∀x,R x<4294967296)(hb:bd<4294967296)(t)(ht:t.rg=iH (SV R bd 11)):qO (iH R) (pn t 0)=iH (GH bd R):=by
 have⟨_,_,c1,c2,c3,c4,c5,_⟩:=TT R a hb;funext x;unfold qO pn GH;rw[ht];unfold iH;dsimp only;rw[c1,c2,c3,c4,c5];by_cases h:x<10\/17<x
 ·rw[if_neg Z,if_neg Z,if_neg Z,if_neg Z,if_neg Z,if_neg Z,if_neg Z,if_neg Z,if_neg Z,if_neg Z,if_neg Z,if_neg Z,if_neg Z]
 have:x=10\/x=11\/x=12\/x=13\/x=14\/x=15\/x=16\/x=17:=Z;rcases this with rfl|rfl|rfl|rfl|rfl|rfl|rfl|rfl<;>rfl
theorem KI.aoj(h:KI P K0 K j st q m)(r:c<P.k)(h1:st (c+1)=1)(u:j c<17*(P.Q c).m)(v:j c % 17=12)(p:m.s≠4):KI P K0 (gj {ba K (c+1) {aw K (c+1) with pc:=vG (j c+1),gr:=true} with b:=⟨K.b.ps,K.b.ws++[kj P j c]⟩} (c+1) 3) j (eJ st (c+1) 3) (q++[c]) m/\fV P j (eJ st (c+1) 3) m+1=fV P j st m:=by
 have s:c+1<K.T.length:=by rw[h.len];omega
 have w:c∉q:=λe=>by have:=(h.qi c).1 e;omega
 have⟨N,gr,y⟩:=h.cl c r;have⟨f,g⟩:=Ze ({ba K (c+1) {aw K (c+1) with pc:=vG (j c+1),gr:=true} with b:=⟨K.b.ps,K.b.ws++[kj P j c]⟩}:Kn);have t:c+1<f.T.length:=by rw[g];show c+1<(ba K (c+1) _).T.length;rw[km];exact s
 have l:∀x,aw f x=if x=c+1 then {aw K (c+1) with pc:=vG (j c+1),gr:=true} else aw K x:=λx=>g▸lG s _ x
 have z:Fx K f:=by rw[g];exact⟨rfl,rfl,rfl,rfl,rfl,rfl,rfl,rfl,rfl,rfl,rfl⟩
 have k:f.ss=K.ss/\f.ck=K.ck/\f.t=K.t/\f.lf=K.lf/\f.T.length=K.T.length:=by rw[g];exact⟨rfl,rfl,rfl,rfl,km _ _ _⟩
 have A:f.b=⟨[⟨0,false,0⟩],(q++[c]).map (kj P j)⟩:=by
  rw[g];show(⟨K.b.ps,K.b.ws++[kj P j c]⟩:Bs)=_;rw[h.ws,if_neg p,List.map_append];rfl
 rw[<-g];have⟨B,C,D⟩:=Fi f (c+1) 3;have hn:=h.num (i:=c+1) Z;obtain⟨s1,s2⟩:=Hx (K:=f) (st:=st) (k.1▸h.sd) (k.1▸k.2.1▸h.sw) (i:=c+1) Z (by rw[l,if_pos rfl];exact hn.1) (by rw[l,if_pos rfl];exact hn.2) 3;refine⟨⟨(h.fx.trans z).trans (Fx.st _ _ _),h.ts,by rw[Hy,k.2.2.2.2];exact h.len,λd n=>?_,?_,?_,h.ok,λd n=>?_,by rw[B,A,if_neg p],?_,λd=>?_,λo=>absurd o p,s1,s2,by rw[C,D,k.2.2.1,k.2.2.2.1];exact h.tn⟩,?_⟩
 ·rw[BC t];by_cases e:d=c
  ·subst e;rw[if_pos rfl,l,if_pos rfl,iF];refine⟨⟨Z,Or.inr (Or.inr (Or.inl rfl)),λo=>Z,λ_=>⟨u,v⟩⟩,true,?_⟩;rw[y,h1];rfl
  rw[if_neg Z,l,if_neg Z,dY _ _ Z];exact h.cl d n
 ·rw[BC t,if_neg Z,l,if_neg Z,dY _ _ Z];exact h.sv
 ·rw[dY _ _ Z];exact h.s0
 ·by_cases e:d=c
  ·subst e;rw[iF,<-h.cu d n,h1];omega
  rw[dY _ _ Z];exact h.cu d n
 ·rw[List.nodup_append];exact⟨h.qn,List.nodup_cons.2 ⟨(λo=>by cases o),List.nodup_nil⟩,λa ha b hb e=>w (by rw[List.mem_singleton] at hb;rw[<-hb,<-e];exact ha)⟩
 ·rw[List.mem_append,List.mem_singleton,h.qi d];by_cases e:d=c
  ·subst e;rw[iF,h1];omega
  rw[dY _ _ Z];omega
 have⟨r1,r2⟩:=Ik (P:=P) (j:=j) (j2:=j) (st:=st) (st2:=eJ st (c+1) 3) r (λx Q=>⟨rfl,dY _ _ Z⟩);rw[iF,h1] at r1 r2;have e1:oB (P.Q c) (j c) 1=17*(P.Q c).m+1 - j c:=rfl;have F:oB (P.Q c) (j c) 3=17*(P.Q c).m+1 - j c - 1:=rfl;have G:p9 (P.Q c) (j c) 1=p9 (P.Q c) (j c) 3:=rfl;rw[e1,F] at r1;rw[G] at r2;unfold fV;omega
def ua(c p:Nat):Sm:=if p=7 then .mF c 0 else .jmp c
theorem Vz{p:Nat}(hp:p=7\/p=19):(ua c p).dV=aD (c+1)/\(ua c p).s=1/\(ua c p).p=p/\(ua c p).cu=some c/\(ua c p).loc<=13/\((c<i)->(ua c p).ok i)/\(ua c p).W P j=SV (RC (P.Q c) (j c)) (100+c) 0:=by
 unfold ua;rcases hp with rfl|rfl
 ·rw[if_pos rfl];exact⟨rfl,rfl,rfl,rfl,(show 12<=13 from I),λh=>⟨h,I⟩,rfl⟩
 rw[if_neg I];exact⟨rfl,rfl,rfl,rfl,(show 13<=13 from I),λh=>h,rfl⟩
theorem KI.meets{K1:Kn}{W:Nat->Nat}{p:Nat}{q2:List Nat}{gr0 gr1:Bool}(h:KI P K0 K j st q m)(o:c<P.k)(t:m.cu=none)(u:Bq W)(hp:p=7\/p=19)(v:Fx K K1)(hlen:K1.T.length=P.k+1)(b:K1.ss=K.ss/\K1.ck=K.ck/\K1.t=K.t/\K1.lf=K.lf)
  (f:aw K1 0=Bc (-1) (st 0) gr0 W p) (hs:st (c+1)=1\/st (c+1)=3) (w:j c<17*(P.Q c).m/\j c % 17=12) (l:aw K1 (c+1)=⟨aD (c+1),st (c+1), -1, -1,gr1,iH (RC (P.Q c) (j c)),vG (j c+1)⟩) (y:∀x,x≠0->x≠c+1->aw K1 x=aw K x)
  (hb:K1.b=⟨[⟨0,false,0⟩],q2.map (kj P j)⟩) (z:q2.Nodup) (A:∀d,d∈q2↔d∈q/\d≠c):KI P K0 (oE K1 (c+1) 0 (qt (P.Q c) (j c) c)) j (eJ (eJ st 0 1) (c+1) 5) q2 (ua c p)/\fV P j (eJ (eJ st 0 1) (c+1) 5) (ua c p)+m.loc+(if st (c+1)=1 then 1 else 0)<=fV P j st m:=by
 have l0:0<K1.T.length:=by rw[hlen];omega
 have l1:c+1<K1.T.length:=by rw[hlen];omega
 have⟨v1,v2,v3,v4,v5,v6,B⟩:=Vz (c:=c) (i:=P.k) (P:=P) (j:=j) hp;have⟨C,D,F⟩:=ajl K1 (c+1) 0 (qt (P.Q c) (j c) c);have⟨s1,s2⟩:=ajf (K:=K1) (st:=st) (g:=0) (s:=c+1) (k:=P.k) (dm:=λi=>(P.dm i:Int)) (b.1▸h.sd) (b.1▸b.2.1▸h.sw) Z Z l0 l1 Z (by rw[f];exact⟨rfl,rfl⟩) (by rw[l];exact⟨rfl,rfl⟩) (qt (P.Q c) (j c) c);have r:=λx=>ajk (K:=K1) l0 l1 Z (qt (P.Q c) (j c) c) x;refine⟨⟨(h.fx.trans v).trans (Fx.meet _ _ _ _),h.ts,by rw[ajn];exact hlen,λd n=>?_,?_,?_,v6 o,λd n=>?_,by rw[C,hb,v2,if_neg I],z,λd=>?_,λa=>absurd a (by rw[v2];decide),s1,s2,by rw[D,F,b.2.2.1,b.2.2.2];exact h.tn⟩,?_⟩
 ·rw[r];by_cases e:d=c
  ·subst e;rw[if_pos rfl,iF];refine⟨⟨Z,Or.inr (Or.inr (Or.inr rfl)),λa=>Z,λ_=>w⟩,gr1,?_⟩;rw[l,f];rfl
  rw[if_neg Z,if_neg Z,dY _ _ Z,dY _ _ Z,y _ Z Z];exact h.cl d n
 ·rw[r,if_neg Z,if_pos rfl,dY _ _ Z,iF,f,l,v1,v3,B];refine⟨gr0,?_⟩;unfold Bc;dsimp only;rw[apq u];rfl
 ·rw[dY _ _ Z,iF,v2]
 ·rw[v4];by_cases e:d=c
  ·subst e;rw[iF];exact⟨λ_=>rfl,λ_=>rfl⟩
  rw[dY _ _ Z,dY _ _ Z,h.cu d n,t];constructor
  ·intro a;cases a
  intro a;injection a with a;exact absurd a.symm e
 ·rw[A d,h.qi d];by_cases e:d=c
  ·subst e;rw[iF];omega
  rw[dY _ _ Z,dY _ _ Z];omega
 have⟨r1,r2⟩:=Ik (P:=P) (j:=j) (j2:=j) (st:=st) (st2:=eJ (eJ st 0 1) (c+1) 5) o (λx R=>⟨rfl,by rw[dY _ _ Z,dY _ _ Z]⟩);rw[iF] at r1 r2;have G:oB (P.Q c) (j c) 5=17*(P.Q c).m+1 - j c - 1:=rfl;have N:p9 (P.Q c) (j c) 5=(P.Q c).m - (j c+4)/17 - 1:=rfl;have Q:p9 (P.Q c) (j c) (st (c+1))=(P.Q c).m - (j c+4)/17:=by unfold p9;rw[if_neg Z,Nat.sub_zero]
 rw[G] at r1;rw[N,Q] at r2;unfold fV;rcases hs with hs|hs
 ·have e1:oB (P.Q c) (j c) 1=17*(P.Q c).m+1 - j c:=rfl;rw[hs,e1] at r1;rw[hs,if_pos rfl];omega
 have e1:oB (P.Q c) (j c) 3=17*(P.Q c).m+1 - j c - 1:=rfl;rw[hs,e1] at r1;rw[hs,if_neg I];omega
theorem KI.Vy(h:KI P K0 K j st q m)(m2)(h1:m.s=1)(a:m2.s=1)(e:m2.dV=m.dV)(hu:m2.cu=m.cu)(f:m2.ok P.k):KI P K0 (ba K 0 {aw K 0 with rg:=iH (m2.W P j),pc:=vG m2.p}) j st q m2/\fV P j st m2+m.loc=fV P j st m+m2.loc:=by
 have c:0<K.T.length:=by rw[h.len];omega
 have⟨gr,g⟩:=h.sv;refine⟨⟨h.fx.trans (Fx.up _ _ _),h.ts,by rw[km];exact h.len,λd b=>?_,⟨gr,?_⟩,by rw[h.s0,h1,a],f,λd b=>hu▸h.cu d b,?_,h.qn,h.qi,λi=>absurd i (by rw[a];decide),h.sd,h.sw,h.tn⟩,?_⟩
 ·rw[lG c,if_neg Z];exact h.cl d b
 ·rw[lG c,if_pos rfl,g,e];rfl
 ·have:=h.ws;rw[h1] at this;rwa[a]
 unfold fV;omega
theorem agz(K i c):(vC K i c).T.length=K.T.length:=by unfold vC;rw[Ez,km,km]
theorem agy(hi:i<K.T.length)(a:c<K.T.length)(x):aw (vC K i c) x=if x=c then {aw K c with dD:= -1,rg:=qO (aw K c).rg (pn (aw K i) 0),st:=1} else if x=i then {aw K i with dV:= -1} else aw K x:=by
 unfold vC;have l1:c<(ba K i {aw K i with dV:= -1}).T.length:=by rw[km];exact a
 rw[Ey (by rw[km];exact l1),lG l1,lG l1,if_pos rfl,lG hi];by_cases h:x=c
 ·rw[if_pos h,if_pos h]
 rw[if_neg h,if_neg h,if_neg h]
theorem KI.agx{K1:Kn}{gr0:Bool}(h:KI P K0 K j st q (.mF c 11))(m:j0 P)(A:Fx K K1)(hlen:K1.T.length=P.k+1)(b:K1.ss=K.ss/\K1.ck=K.ck/\K1.t=K.t/\K1.lf=K.lf)(hb:K1.b=K.b)(u:aw K1 0=Bc (aD (c+1)) (st 0) gr0 (SV (RC (P.Q c) (j c)) (100+c) 11) 19)(v:∀x,x≠0->aw K1 x=aw K x):KI P K0 (vC K1 0 (c+1)) (eJ j c (j c+1)) (eJ st (c+1) 1) q (.get (SV (RC (P.Q c) (j c)) (100+c) 11) 19)/\fV P (eJ j c (j c+1)) (eJ st (c+1) 1) (.get (SV (RC (P.Q c) (j c)) (100+c) 11) 19)=fV P j st (.mF c 11):=by
 have l:=h.ok.1;have f:=(h.cu c l).2 rfl;have l0:0<K1.T.length:=by rw[hlen];omega
 have l1:c+1<K1.T.length:=by rw[hlen];omega
 have B:c∉q:=λe=>by have:=(h.qi c).1 e;omega
 have⟨C,gr,D⟩:=h.cl c l;have V:=C.lh (Or.inr f);have n:=v (c+1) Z;rw[D,f] at n;have g:=CI (P.Q c) (m.Q c) (j c) Z;have w:100+c<4294967296:=by have:=m.k;omega
 have y:=λx=>agy (K:=K1) (i:=0) (c:=c+1) l0 l1 x;have F:=h.s0;have⟨G,N,Q⟩:=Fi (ba (ba (ba K1 0 {aw K1 0 with dV:= -1}) (c+1) {aw K1 (c+1) with dD:= -1}) (c+1) {aw (ba (ba K1 0 {aw K1 0 with dV:= -1}) (c+1) {aw K1 (c+1) with dD:= -1}) (c+1) with rg:=qO (aw (ba (ba K1 0 {aw K1 0 with dV:= -1}) (c+1) {aw K1 (c+1) with dD:= -1}) (c+1)).rg (pn (aw K1 0) 0)}) (c+1) 1;have o:(vC K1 0 (c+1)).b=K.b/\(vC K1 0 (c+1)).t=K.t/\(vC K1 0 (c+1)).lf=K.lf:=⟨G.trans hb,N.trans b.2.2.1,Q.trans b.2.2.2⟩;have z:=abx (K:=ba (ba K1 0 {aw K1 0 with dV:= -1}) (c+1) {aw K1 (c+1) with dD:= -1}) (st:=st) (i:=c+1) (k:=P.k) (dm:=λi=>(P.dm i:Int)) (by show hY _ _ _ K1.ss;rw[b.1];exact h.sd) (by show cU K1.ss K1.ck;rw[b.1,b.2.1];exact h.sw) Z (by rw[km,km];exact l1) (by rw[lG (by rw[km];exact l1),if_pos rfl,n,f];exact⟨rfl,rfl⟩) (pn (aw K1 0) 0);have p:pS (P.Q c) (j c)=⟨39,0,0,0,0⟩:=by
  have e:=Tv (P.Q c) (q:=j c/17) (r:=12) Z Z;rw[show 17*(j c/17)+12=j c from Z] at e;rw[e];rfl
 have s:RC (P.Q c) (j c+1)=GH (100+c) (RC (P.Q c) (j c)):=by
  show Br _ (pS _ _) _=_;rw[p,m.bd c l];rfl
 refine⟨⟨(h.fx.trans A).trans (((Fx.up _ _ _).trans (Fx.up _ _ _)).trans (Fx.vW _ _ _)),h.ts,by rw[agz];exact hlen,λd t=>?_,⟨gr0,?_⟩,?_,⟨(TT _ g w).2.2.2.2.2.2.2,Or.inr rfl⟩,λd t=>?_,?_,h.qn,λd=>?_,λa=>absurd a (show¬(1:Int)=4 from I),z.1,z.2,o.2.1▸o.2.2▸h.tn⟩,?_⟩
 ·rw[y];by_cases e:d=c
  ·subst e;rw[if_pos rfl,iF,iF];refine⟨⟨Z,Or.inr (Or.inl rfl),λa=>Z,λa=>Z⟩,gr,?_⟩;rw[n];unfold J1;dsimp only;rw[apo g w (aw K1 0) (by rw[u];rfl),s];rfl
  rw[if_neg Z,if_neg Z,dY _ _ e,dY _ _ Z,v _ Z];exact h.cl d t
 ·rw[y,if_neg Z,if_pos rfl,dY _ _ Z,u];rfl
 ·rwa[dY _ _ Z]
 ·by_cases e:d=c
  ·subst e;rw[iF];constructor
   ·intro a;omega
   intro a;cases a
  rw[dY _ _ Z,h.cu d t];constructor
  ·intro a;injection a with a;exact absurd a.symm e
  intro a;cases a
 ·rw[o.1,h.ws,UP B];rfl
 ·rw[h.qi d];by_cases e:d=c
  ·subst e;rw[iF,f];omega
  rw[dY _ _ Z]
 have⟨r1,r2⟩:=Ik (P:=P) (j:=j) (j2:=eJ j c (j c+1)) (st:=st) (st2:=eJ st (c+1) 1) l (λx R=>⟨dY _ _ R,dY _ _ Z⟩);rw[iF,iF,f] at r1 r2;have e1:oB (P.Q c) (j c) 5=17*(P.Q c).m+1 - j c - 1:=rfl;have S:oB (P.Q c) (j c+1) 1=17*(P.Q c).m+1 - (j c+1):=rfl;have T:p9 (P.Q c) (j c) 5=(P.Q c).m - (j c+4)/17 - 1:=rfl;have U:p9 (P.Q c) (j c+1) 1=(P.Q c).m - (j c+1+4)/17:=rfl;rw[e1,S] at r1;rw[T,U] at r2;unfold fV;show _+_+1=_+_+1;omega
theorem KI.aeW{W:Nat->Nat}{p:Nat}(h:KI P K0 K j st [] (.get W p)):KI P K0 (gj {K with b:=⟨K.b.ps,K.b.ws++[⟨0,aD 0,4,mg⟩]⟩} 0 4) j (eJ st 0 4) [] (.dD W p)/\fV P j (eJ st 0 4) (.dD W p)+1=fV P j st (.get W p):=by
 have m:0<K.T.length:=by rw[h.len];omega
 have⟨a,c⟩:=Ze ({K with b:=⟨K.b.ps,K.b.ws++[⟨0,aD 0,4,mg⟩]⟩}:Kn);have g:a.T=K.T:=c▸rfl;have l:=g▸m;have f:=λx=>X8 g x;have n:Fx K a:=by rw[c];exact⟨rfl,rfl,rfl,rfl,rfl,rfl,rfl,rfl,rfl,rfl,rfl⟩
 have e:a.ss=K.ss/\a.ck=K.ck/\a.t=K.t/\a.lf=K.lf:=by rw[c];exact⟨rfl,rfl,rfl,rfl⟩
 have o:a.b=⟨[⟨0,false,0⟩],[⟨0,aD 0,4,mg⟩]⟩:=by
  rw[c];show(⟨K.b.ps,K.b.ws++[⟨0,aD 0,4,mg⟩]⟩:Bs)=_;rw[h.ws];rfl
 rw[<-c];have⟨q,r,s⟩:=Fi a 0 4;have hn:=h.num (i:=0) Z;obtain⟨s1,s2⟩:=Hx (K:=a) (st:=st) (e.1▸h.sd) (e.1▸e.2.1▸h.sw) (i:=0) Z (by rw[f];exact hn.1) (by rw[f];exact hn.2) 4;have⟨gr,t⟩:=h.sv;refine⟨⟨(h.fx.trans n).trans (Fx.st _ _ _),h.ts,by rw[Hy,g];exact h.len,λd k=>?_,⟨gr,?_⟩,iF _ _ _,h.ok,λd k=>?_,by rw[q,o];rfl,h.qn,λd=>?_,λ_=>rfl,s1,s2,by rw[r,s,e.2.2.1,e.2.2.2];exact h.tn⟩,?_⟩
 ·rw[BC l,if_neg Z,f,dY _ _ Z];exact h.cl d k
 ·rw[BC l,if_pos rfl,f,t,iF];rfl
 ·rw[dY _ _ Z];exact h.cu d k
 ·rw[h.qi d,dY _ _ Z]
 have e1:Bj P j (eJ st 0 4)=Bj P j st:=L8 _ _ _ (λx _=>by rw[dY _ _ Z]);have u:Dm P j (eJ st 0 4)=Dm P j st:=L8 _ _ _ (λx _=>by rw[dY _ _ Z]);unfold fV;rw[e1,u];rfl
end
end Go.Proofs.YtdjlkahbpdoemaaGreatDoor

import Derived.Test.YtphkconoooeidaaGreatDoorCp31
import Derived.Test.YtphkconoooeidaaGreatDoorCp32
set_option maxRecDepth 100000
set_option maxHeartbeats 8000000
set_option linter.unusedVariables false
set_option linter.unusedSimpArgs false
open Go Go.Vx Go.Proofs.Tryz Go.ChangeShapes Go.WideShapes Go.ChangeAt Go.RowKit
namespace Go.Proofs.YtphkconoooeidaaGreatDoor
section
variable {kb mb sb pb qb bb:Nat} {vT v:Value} {ls:List Tl} {U V S:Nat->Prop} {w wv w1 w2:World} {K K2:Kn} {F:List (Nat×Obj)}
def I8:List Value:=aZ {num:=0,st:=0,nK:=0,mT:=0,gr:=false,rg:=λ_=>0,pc:=0}
theorem V4 {o:Oper} {act:Act} {K:Act->World->Prop} {Q:Exit->Act->World->Prop} (x:Operand) (d:Nat) (ho:o.op=.load 118 x) (hd:o.dst=some d) {g off:Nat} {e:Kt} (hx:act.eval x=.pointer (some ⟨g,off,none⟩)) (hr:w.rangeAt g off (aZ e)) (h:K (act.put (some d) (.agg (aZ e).toArray)) w):Oper.wp prog o act w K Q:=by
 have aM:=J6 (act:=act) x ho hx hr;generalize (aZ e).toArray=c at aM h;unfold Oper.wp;simp[aM,Result.andThen];rw[Oper.upon_value,hd];exact h
theorem X6 (a b c d e f g h:Int) (w:World):(Instr.build 203 #[(0,Zi a),(1,Zi b),(2,Zi c),(3,Zi d),(4,Zi e),(5,Zi f),(6,Zi g),(7,Zi h)]).run prog w=.ok (.agg (ba ⟨a,b,c,d,e,f,g,h,λ_=>0,0⟩).toArray) w:=Zx
theorem V7 {o:Oper} {act:Act} {K:Act->World->Prop} {Q:Exit->Act->World->Prop} (x0 x1 x2 x3 x4 x5 x6 x7:Operand) (dd:Nat) (ho:o.op=.build 203 #[(0,x0),(1,x1),(2,x2),(3,x3),(4,x4),(5,x5),(6,x6),(7,x7)]) (hd:o.dst=some dd) {a b c d e f g h:Int} (h0:act.eval x0=Zi a) (h1:act.eval x1=Zi b) (h2:act.eval x2=Zi c) (h3:act.eval x3=Zi d) (h4:act.eval x4=Zi e) (h5:act.eval x5=Zi f) (h6:act.eval x6=Zi g) (h7:act.eval x7=Zi h) {u:Tl} (hu:u=⟨a,b,c,d,e,f,g,h,λ_=>0,0⟩) (hK:K (act.put (some dd) (.agg (ba u).toArray)) w):Oper.wp prog o act w K Q:=by
 rw[hu] at hK;have aM:=X6 a b c d e f g h w;generalize (ba ⟨a,b,c,d,e,f,g,h,λ_=>0,0⟩).toArray=z at aM hK;unfold Oper.wp;simp only[execOp,ho];simp[h0,h1,h2,h3,h4,h5,h6,h7,aM,Result.andThen];rw[Oper.upon_value,hd];exact hK
theorem YD {g:Nat} {cs:List Value} {T:TypeId} (h:w.heap[g]?=some (.cells cs.toArray T (0,0))):w.rangeAt g 0 cs:=λq u hq=>by
 rw[Nat.zero_add,cell_of_row _ _ q _ _ (0,0) h,List.getElem?_toArray];exact hq
theorem I2 {b n:Nat} {cs:List Value} {T:TypeId} (h:w.heap[b]?=some (.cells cs.toArray T (0,0))) (hn:n=cs.length):w.there b 0 n:=λj hj=>by
 refine⟨?_,jA h _⟩;rw[Nat.zero_add,cell_of_row _ _ j _ _ (0,0) h,List.getElem?_toArray,List.getElem?_eq_getElem (hn▸hj)];rfl
theorem IT {o:Oper} {act:Act} {K:Act->World->Prop} {Q:Exit->Act->World->Prop} (x:Operand) (d:Nat) (ho:o.op=.load 203 x) (hd:o.dst=some d) {g:Nat} {u:Tl} (hx:act.eval x=Zp g) (hr:w.heap[g]?=some (.cells (ba u).toArray 203 (0,0))) (h:K (act.put (some d) (.agg (ba u).toArray)) w):Oper.wp prog o act w K Q:=by
 have aM:=run_loadAt_mid (P:=prog) w g 0 203 (ba u) _ (YD hr) underlying203 rfl (by rw[GD];exact congrArg some (eu.len u).symm);generalize (ba u).toArray=c at aM h;unfold Oper.wp;simp only[execOp,ho,hx];simp[aM,Result.andThen];rw[Oper.upon_value,hd];exact h
theorem WB (u:Tl) {r:Nat} (hr:r<32) (b:Int):(ba u).set (8+r) (Zu b)=ba {u with rg:=λj=>if j=r then b else u.rg j}:=by
 unfold ba;rw[List.set_append_right _ _ (by simp),show 8+r - [Value.int .i64 u.num,Zi u.st,Zi u.bT,Zi u.prio,Zi u.at',Zi u.nK,Zi u.mT,Zi u.left].length=r by simp,List.set_append_left _ _ (by rw[rh];exact hr),OP _ _ hr]
theorem WC (u:Tl) (b:Int):(ba u).set 40 (Zu b)=ba {u with pc:=b}:=rfl
def sf (u:Tl) (rg:Nat->Int) (r:Nat):Tl:={u with rg:=λj=>if j<r then rg j else 0}
theorem WE (u:Tl) (rg:Nat->Int) (r:Nat):sf u rg (r+1)={sf u rg r with rg:=λj=>if j=r then rg r else (sf u rg r).rg j}:=by
 unfold sf;congr 1
 funext j
 by_cases he:j=r
 ·subst he;rw[if_pos Zo,if_pos rfl]
 ·rw[if_neg he];dsimp only;by_cases hl:j<r
  ·rw[if_pos Zo,if_pos hl]
  ·rw[if_neg Zo,if_neg hl]
theorem WG (u:Tl) (rg:Nat->Int):ba (sf u rg 32)=ba {u with rg:=rg}:=by
 unfold ba sf;rw[OQ (a:=λj=>if j<32 then rg j else 0) (b:=rg) (λj hj=>if_pos hj)]
theorem WD (u:Tl) (rg:Nat->Int):sf u rg 0={u with rg:=λ_=>0}:=by
 unfold sf;congr 1
structure dv (w:World) (v:Value) (ls:List Tl) (F:List (Nat×Obj)) (wv:World):Prop where
 on:Zq w wv
 ow:ai eu wv w.heap.size 203 v ls
 f:∀p∈F,w.heap.size<=p.1/\wv.heap[p.1]?=some p.2/\v.ownBlock≠some p.1
theorem dv.quiet (h:dv w v ls F wv) (ho:Zq wv w2):dv w v ls F w2:=
 ⟨h.on.trans ho,h.ow.kept ho (λ_ _ h=>h),λp hp=>⟨(h.f p hp).1,ae.keep ho (h.f p hp).2.1 (λh=>h),(h.f p hp).2.2⟩⟩
theorem dv.drew (h:dv w v ls F wv):dv w v ls F wv.drew:=h.quiet ((ae.refl _ _).drew)
theorem dv.alloc (h:dv w v ls F wv) (o:Obj):dv w v ls ((wv.heap.size,o)::F) (wv.alloc o):=by
 have h2:=h.quiet ((ae.refl _ wv).alloc o);refine⟨h2.on,h2.ow,λp hp=>?_⟩;rcases List.mem_cons.1 hp with rfl|hp
 ·exact⟨h.on.size,heap_alloc_last wv o,λe=>by have:=(cH h.ow e).2;simp at this⟩
 ·exact h2.f p hp
theorem dv.at (h:dv w v ls F wv) {b:Nat} {o:Obj} (hm:(b,o)∈F):wv.heap[b]?=some o:=(h.f _ hm).2.1
theorem dv.fh {b:Nat} {o o2:Obj} (h:dv w v ls ((b,o)::F) wv) (ho:ae (λk=>k=b) wv w2) (hb:w2.heap[b]?=some o2) (hF:∀p∈F,p.1≠b):dv w v ls ((b,o2)::F) w2:=by
 have h0:=h.f (b,o) List.mem_cons_self;refine⟨h.on.beyond ho (λk hk=>by subst hk;exact h0.1),h.ow.kept ho (λk hk e=>h0.2.2 (by rw[hk];exact congrArg some e)),λq hq=>?_⟩;rcases List.mem_cons.1 hq with rfl|hq
 ·exact⟨h0.1,hb,h0.2.2⟩
 ·have h1:=h.f q (List.mem_cons_of_mem _ hq);exact⟨h1.1,ae.keep ho h1.2.1 (hF q hq),h1.2.2⟩
theorem dv.set {b:Nat} {cs:List Value} {T:TypeId} (h:dv w v ls ((b,.cells cs.toArray T (0,0))::F) wv) (j:Nat) (x:Value) {jd:List Value} (he:cs.set j x=jd) (hF:∀p∈F,p.1≠b):dv w v ls ((b,.cells jd.toArray T (0,0))::F) (wv.setCell ⟨b,j,none⟩ x):=by
 have h1:=heap_setCell_same wv b j _ _ x (h.at List.mem_cons_self);refine h.fh (ae.setCell (S:=λk=>k=b) (ae.refl _ wv) (p:=⟨b,j,none⟩) (Or.inl rfl) x) (h1.trans ?_) hF;rw[<-he];simp
theorem dv.Ja {b:Nat} (h:dv w v ls ((b,.cells se.toArray 203 (0,0))::F) wv) (u:Tl) (hF:∀p∈F,p.1≠b):dv w v ls ((b,.cells (ba u).toArray 203 (0,0))::F) (wv.setCells b 0 (ba u)):=by
 obtain⟨h1,h2⟩:=uD (ba u) [] se wv ((eu.len _).trans (eu.len u).symm) (h.at List.mem_cons_self);exact h.fh h2 h1 hF
theorem dv.Xj {b:Nat} (h:dv w v ls ((b,.cells I8.toArray 118 (0,0))::F) wv) (u:Kt) (hF:∀p∈F,p.1≠b):dv w v ls ((b,.cells (aZ u).toArray 118 (0,0))::F) (wv.setCells b 0 (aZ u)):=by
 obtain⟨h1,h2⟩:=uD (aZ u) [] I8 wv ((iL.len _).trans (iL.len u).symm) (h.at List.mem_cons_self);exact h.fh h2 h1 hF
theorem dv.cl0 {b:Nat} {t:Kt} (h:dv w v ls F wv) (hm:(b,.cells (aZ t).toArray 118 (0,0))∈F):wv.cell? ⟨b,0,none⟩=some (Zi t.num):=(cell_of_row _ _ 0 _ _ (0,0) (h.at hm)).trans rfl
theorem dv.cls {b:Nat} {t:Kt} (h:dv w v ls F wv) (hm:(b,.cells (aZ t).toArray 118 (0,0))∈F):wv.cell? ⟨b,1,none⟩=some (Zi t.st)/\wv.cell? ⟨b,2,none⟩=some (Zi t.nK)/\wv.cell? ⟨b,3,none⟩=some (Zi t.mT)/\wv.cell? ⟨b,37,none⟩=some (Zi t.pc):=⟨(cell_of_row _ _ 1 _ _ (0,0) (h.at hm)).trans rfl,(cell_of_row _ _ 2 _ _ (0,0) (h.at hm)).trans rfl,(cell_of_row _ _ 3 _ _ (0,0) (h.at hm)).trans rfl,(cell_of_row _ _ 37 _ _ (0,0) (h.at hm)).trans rfl⟩
theorem dv.clr {b:Nat} {t:Kt} (h:dv w v ls F wv) (hm:(b,.cells (aZ t).toArray 118 (0,0))∈F) {r:Nat} (hr:r<32):wv.cell? ⟨b,5+r,none⟩=some (Zi (t.rg r)):=by
 rw[cell_of_row _ _ (5+r) _ _ (0,0) (h.at hm),List.getElem?_toArray];unfold aZ;rw[List.getElem?_append_right (by simp),show 5+r - [Value.int .i64 t.num,Zi t.st,Zi t.nK,Zi t.mT,.bool t.gr].length=r by simp,List.getElem?_append_left (by rw[rh];exact hr),OR _ _ hr]
theorem dv.Tt {b:Nat} {t:Tl} (h:dv w v ls F wv) (hm:(b,.cells (ba t).toArray 203 (0,0))∈F) {r:Nat} (hr:r<41):(∃q,wv.cell? ⟨b,r,none⟩=some q)/\wv.frozen? ⟨b,r,none⟩=false:=by
 refine⟨?_,jA (h.at hm) _⟩;rw[cell_of_row _ _ r _ _ (0,0) (h.at hm),List.getElem?_toArray];exact⟨_,List.getElem?_eq_getElem (by rw[show(ba t).length=41 from eu.len t];exact hr)⟩
theorem dv.push {v2:Value} {ru:List Tl} {wx:World} (h:dv w v ls F wv) (ho:ai eu wx w.heap.size 203 v2 ru) (ay:ae (λk=>v.ownBlock=some k) wv wx):dv w v2 ru [] wx:=
 ⟨h.on.beyond ay (λk hk=>(cH h.ow hk).1),ho,λp hp=>by cases hp⟩
theorem ZA (h:aI U w kb mb sb pb qb bb vT K) (hw:aE K):Zk 22 #[Zp kb] w λe w'=>∃v,Zr e v/\ai eu w' w.heap.size 203 v (K.T.map (iv K))/\Zq w w':=by
 obtain⟨pt,ct,BM,_,_,qE⟩:=h.t.form;obtain⟨M,hM⟩:=Ze (K.T.length);rw[<-hM] at BM;subst BM;have HM:=aa hM
 have Bg:Hid (0<M->∃g,pt=some ⟨g,0,none⟩):=λh0=>by
  obtain⟨g,h1,_⟩:=qE Zo;exact⟨g,h1⟩
 have D6:M<=1000:=by rw[hM];exact h.nt
 have HH:=aa h;have HTR:=aa hw.tr;have oE:Hid (dv w (.slice none 0 0) ((K.T.take 0).map (iv K)) [] w):=⟨ae.refl _ _,ai.nil _ _ _ _,λp hp=>by cases hp⟩
 clear qE h hw hM;go_enter func22,ntmps22;go_wp2_with fail
 go_loopw [3,4] (λv d wr=>∃j:Nat,d=Zi (j:Int)/\j<=M/\Hid (dv w v ((K.T.take j).map (iv K)) [] wr)) (λ_ d _=>M - (RowKit.intOf d).toNat)
 case atStart=>exact⟨0,rfl,Zo,oE⟩
 case round=>
  clear oE;obtain⟨j,rfl,hj,HR⟩:=hrel;obtain⟨pv,cv,iA,_⟩:=HR.j.ow.form;obtain⟨m,hm⟩:=Ze (((K.T.take j).map (iv K)).length);rw[<-hm] at iA;subst iA;have eK:=HH.j.quiet HR.j.on;have c5:=eK.c5;by_cases ah:j<M
  ·have bg:j<K.T.length:=by have:=HM.j;omega
   have h1:(j:Int)<(M:Int):=Zo;have bf:0<=(j:Int)/\(j:Int)<(M:Int):=Zo;have jT:=Zf j Zo;obtain⟨g,rfl⟩:=Bg.j Zo;have dp:Hid (wr.rangeAt g (j*38) (aZ K.T[j])):=zN eK.t bg;have yo:=HTR.j _ (List.getElem_mem bg)
   have dG:Hid ((K.T.take (j+1)).map (iv K)=(K.T.take j).map (iv K)++[iv K K.T[j]]):=by
    show _=_;rw[List.take_succ_eq_append_getElem bg,List.map_append];rfl
   have jw:Hid (((K.T.take j).map (iv K)).length+1<=10000000):=by show _+1<=10000000;rw[List.length_map,List.length_take];omega
   have ar:Hid (∀v ls F wv,dv w v ls F wv->Zc wv kb 3 (Zp qb)/\Zc wv kb 4 (Zp bb)):=λv ls F wv h=>⟨(HH.j.quiet h.on).c3,(HH.j.quiet h.on).c4⟩
   have rZ:Hid (∀v ls F wv,dv w v ls F wv->Zk 71 #[Zp qb,Zi K.T[j].num] wv λe w'=>Zr e (.tuple #[Zi (eU K.ss K.T[j].num).1,Zi (eU K.ss K.T[j].num).2.1,Zi (eU K.ss K.T[j].num).2.2.1,Zi (eU K.ss K.T[j].num).2.2.2])/\Hid (dv w v ls F w')):=λv ls F wv h=>by
    obtain⟨U2,vt,vl,hs⟩:=(HH.j.quiet h.on).sched;refine(Xy hs _).m ?_;rintro e w' ⟨rfl,ho⟩;exact⟨rfl,h.quiet ho⟩
   have mN:Hid (∀v ls F wv,dv w v ls F wv->Zk 70 #[Zp bb,Zi K.T[j].num] wv λe w'=>Zr e (.tuple #[Zi (nV K.b K.T[j].num),Zi (qj K.b K.T[j].num)])/\Hid (dv w v ls F w')):=λv ls F wv h=>by
    obtain⟨U2,vp,vw,hs⟩:=(HH.j.quiet h.on).tP;refine(XZ hs _).m ?_;rintro e w' ⟨rfl,ho⟩;exact⟨rfl,h.quiet ho⟩
   have eM:Hid (iv K K.T[j]=⟨K.T[j].num,K.T[j].st,(eU K.ss K.T[j].num).1,(eU K.ss K.T[j].num).2.1,nV K.b K.T[j].num,K.T[j].nK,K.T[j].mT,(eU K.ss K.T[j].num).2.2.1,K.T[j].rg,K.T[j].pc⟩):=rfl;obtain⟨u,hu⟩:=Ze (iv K K.T[j]);rw[<-hu] at eM dG;obtain⟨LS,Sw⟩:=Ze ((K.T.take j).map (iv K));rw[<-Sw] at HR dG jw;have M0:Hid (Cl K.T[j]):=yo;generalize DQ:K.T[j]=kt at*;obtain⟨n,s,cl,wi,gr,rg,pc⟩:=kt;dsimp only at eM mN rZ;generalize (eU K.ss n).1=l1 at*;generalize (eU K.ss n).2.1=l2 at*;generalize (eU K.ss n).2.2.1=l3 at*;generalize (eU K.ss n).2.2.2=l4 at*;generalize nV K.b n=wa at*;generalize qj K.b n=wh at*
   have Iw:Hid (IntKind.u32.wrap pc=pc):=by
    have:=M0.j.2.2.1;show _=_;rw[IntKind.wrap_u32];dsimp only at this;omega
   have im:Hid (∀r,IntKind.u32.wrap (rg r)=rg r):=λr=>by
    have:=M0.j.2.1 r;rw[IntKind.wrap_u32];dsimp only at this;omega
   clear yo hu Sw eK ah hm M0 DQ;obtain⟨KT,tM⟩:∃KT:Kt,KT=⟨n,s,cl,wi,gr,rg,pc⟩:=⟨_,rfl⟩
   have ID:=aa tM;rw[<-tM] at dp;clear tM;go_upto_region 5 with fail
   go_wp2_with (first|(refine wpList_plain rfl (λ_ hK=>V4 (.tmp 28) 29 rfl rfl rfl dp.j (hK _ _ ?_))));obtain⟨tb,iO⟩:=Ze (wr.heap.size);generalize ag:wr.alloc _=w1;have H1:Hid (dv w (.slice pv m cv) LS [(tb,.cells I8.toArray 118 (0,0))] w1):=by rw[<-ag,iO];exact HR.j.alloc _
   rw[<-iO];clear ag iO;have cG:=s7 w1 tb 0 (aZ KT) (I2 (H1.j.at List.mem_cons_self) ((iL.len KT).trans (iL.len _).symm)) (iL.one KT);obtain⟨w2,aT⟩:=Ze (w1.setCells tb 0 (aZ KT));have H2:Hid (dv w (.slice pv m cv) LS [(tb,.cells (aZ KT).toArray 118 (0,0))] w2):=by rw[aT];exact H1.j.Xj KT (λp hp=>by cases hp)
   rw[<-aT] at cG
   have fL:Hid (∀F wv,dv w (.slice pv m cv) LS F wv->(tb,.cells (aZ KT).toArray 118 (0,0))∈F->wv.cell? ⟨tb,0,none⟩=some (Zi n)/\wv.cell? ⟨tb,1,none⟩=some (Zi s)/\wv.cell? ⟨tb,2,none⟩=some (Zi cl)/\wv.cell? ⟨tb,3,none⟩=some (Zi wi)/\wv.cell? ⟨tb,37,none⟩=some (Zi pc)/\∀r:Nat,r<32->wv.cell? ⟨tb,5+r,none⟩=some (Zi (rg r))):=λF wv h hm=>by
    rw[ID.j] at hm;exact⟨h.cl0 hm,(h.cls hm).1,(h.cls hm).2.1,(h.cls hm).2.2.1,(h.cls hm).2.2.2,λr hr=>h.clr hm hr⟩
   clear H1 aT HR dp c5 ID;simp only[cG,Result.andThen];go_upto_region 6 with fail
   clear cG;have eC:=aa (mN.j _ _ _ _ H2.j.drew);have af:Hid (Zc w2.drew kb 4 (Zp bb)/\Zc w2.drew tb 0 (Zi n)):=⟨(ar.j _ _ _ _ H2.j.drew).2,(fL.j _ _ H2.j.drew List.mem_cons_self).1⟩
   have ak:=af;go_region_held3 (λwv=>Zc wv kb 4 (Zp bb)/\Zc wv tb 0 (Zi n)) (with_reducible (first|exact af.j|exact ak.j)) (first|(go_at_call 70;refine eC.j.m ?_;rintro e w3 ⟨rfl,H3⟩;have ak:Hid (Zc w3 kb 4 (Zp bb)/\Zc w3 tb 0 (Zi n)):=⟨(ar.j _ _ _ _ H3.j).2,(fL.j _ _ H3.j List.mem_cons_self).1⟩));clear af ak eC H2;go_upto_region 7 with fail
   have eC:=aa (rZ.j _ _ _ _ H3.j.drew);have af:Hid (Zc w3.drew kb 3 (Zp qb)/\Zc w3.drew tb 0 (Zi n)):=⟨(ar.j _ _ _ _ H3.j.drew).1,(fL.j _ _ H3.j.drew List.mem_cons_self).1⟩
   have ak:=af;go_region_held3 (λwv=>Zc wv kb 3 (Zp qb)/\Zc wv tb 0 (Zi n)) (with_reducible (first|exact af.j|exact ak.j)) (first|(go_at_call 71;refine eC.j.m ?_;rintro e w4 ⟨rfl,H4⟩;have ak:Hid (Zc w4 kb 3 (Zp qb)/\Zc w4 tb 0 (Zi n)):=⟨(ar.j _ _ _ _ H4.j).1,(fL.j _ _ H4.j List.mem_cons_self).1⟩));clear af ak eC H3;clear rZ mN;obtain⟨c0,c1,c2,c3,_⟩:=fL.j _ _ H4.j List.mem_cons_self;obtain⟨u0,Q8⟩:∃u0:Tl,u0=⟨n,s,l1,l2,wa,cl,wi,l3,λ_=>0,0⟩:=⟨_,rfl⟩
   have MX:=aa Q8;clear Q8;go_upto_region 8 with fail
   go_wp2_with (first|(refine wpList_plain rfl (λ_ hK=>V7 (.tmp 53) (.tmp 55) (.tmp 56) (.tmp 57) (.tmp 58) (.tmp 60) (.tmp 62) (.tmp 63) 64 rfl rfl rfl rfl rfl rfl rfl rfl rfl rfl MX.j (hK _ _ ?_))));have htx:tb<w4.heap.size:=au (H4.j.at List.mem_cons_self);obtain⟨xb,bQ⟩:=Ze (w4.heap.size);generalize dN:w4.alloc _=w5;have H5:Hid (dv w (.slice pv m cv) LS [(xb,.cells se.toArray 203 (0,0)),(tb,.cells (aZ KT).toArray 118 (0,0))] w5):=by rw[<-dN,bQ];exact H4.j.alloc _
   rw[<-bQ]
   have dS:Hid (∀p∈[(tb,(.cells (aZ KT).toArray 118 (0,0):Obj))],p.1≠xb):=λp hp=>by
    rw[List.mem_singleton] at hp;subst hp;show tb≠xb;omega
   clear dN bQ htx c0 c1 c2 c3;have cG:=s7 w5 xb 0 (ba u0) (I2 (H5.j.at List.mem_cons_self) ((eu.len u0).trans (eu.len _).symm)) (eu.one u0);obtain⟨w6,rF⟩:=Ze (w5.setCells xb 0 (ba u0));have H6:Hid (dv w (.slice pv m cv) LS [(xb,.cells (ba u0).toArray 203 (0,0)),(tb,.cells (aZ KT).toArray 118 (0,0))] w6):=by rw[rF];exact H5.j.Ja u0 dS.j
   rw[<-rF] at cG;clear H4 H5 rF;simp only[cG,Result.andThen];go_upto_region 9 with fail
   clear cG;have c37:=(fL.j _ _ H6.j (by simp)).2.2.2.2.1;obtain⟨⟨q40,ae3⟩,aeo⟩:=H6.j.Tt (t:=u0) List.mem_cons_self (r:=40) Zd;have Km:=Iw.j;have H7:Hid (dv w (.slice pv m cv) LS [(xb,.cells (ba (sf {u0 with pc:=pc} rg 0)).toArray 203 (0,0)),(tb,.cells (aZ KT).toArray 118 (0,0))] (w6.setCell ⟨xb,40,none⟩ (Zu pc))):=H6.j.set 40 _ (by rw[WD,MX.j];exact WC _ _) dS.j;clear H6;go_upto_region 10 with fail
   generalize qA:w6.setCell _ _=w7;rw[qA] at H7;clear qA c37 ae3 aeo Km;go_wp2_with fail
   go_loopw [13] (λd wy=>∃r:Nat,d=Zi (r:Int)/\r<=32/\Hid (dv w (.slice pv m cv) LS [(xb,.cells (ba (sf {u0 with pc:=pc} rg r)).toArray 203 (0,0)),(tb,.cells (aZ KT).toArray 118 (0,0))] wy)) (λd _=>32 - (RowKit.intOf d).toNat)
   case atStart=>exact⟨0,rfl,Zo,H7⟩
   case round=>
    clear H7;obtain⟨r,rfl,rG,HY⟩:=hrel;by_cases hr:r<32
    ·have h2:(r:Int)<32:=Zo;have ael:0<=(r:Int)/\(r:Int)<32:=Zo;have hwr:=Zf r Zo;have c5r:=(fL.j _ _ HY.j (by simp)).2.2.2.2.2 r hr;obtain⟨⟨q,hq⟩,hf⟩:=HY.j.Tt (t:=sf {u0 with pc:=pc} rg r) List.mem_cons_self (r:=8+r) Zo;have GH:=im.j r;have HN:Hid (dv w (.slice pv m cv) LS [(xb,.cells (ba (sf {u0 with pc:=pc} rg (r+1))).toArray 203 (0,0)),(tb,.cells (aZ KT).toArray 118 (0,0))] (wr.setCell ⟨xb,8+r,none⟩ (Zu (rg r)))):=HY.j.set (8+r) _ (by rw[WE];exact WB _ hr _) dS.j;clear HY;generalize rg r=rv at*;go_upto_region 13 with fail
     go_wp2_with fail;go_roundw
     case rel=>exact⟨r+1,by go_num,Zo,HN⟩
     case measure=>exact Zm
    ·have h2:¬(r:Int)<32:=Zo
     have HF:Hid (dv w (.slice pv m cv) LS [(xb,.cells (ba u).toArray 203 (0,0)),(tb,.cells (aZ KT).toArray 118 (0,0))] wr):=by
      obtain rfl:r=32:=Zo;have h9:=HY.j;rw[WG,MX.j] at h9;rw[eM.j];exact h9
     have MS:=aa (HF.j.at List.mem_cons_self);have oG:Hid (w.heap.size<=wr.heap.size):=HF.j.on.size;clear HY fL dS;go_wp2_with (first|(refine wpList_plain rfl (λ_ hK=>IT (.tmp 12) 86 rfl rfl rfl MS.j (hK _ _ ?_)))|(refine wpList_plain rfl (λ_ hK=>Jm (.tmp 86) 87 rfl rfl (a:=u) rfl (hK _ _ ?_)))|(at_builtin;refine mg I1 _ rfl _ _ rfl w.heap.size (.slice pv m cv) _ rfl HF.j.ow u _ _ rfl rfl rfl jw.j oG.j ?_;intro v' w9 bc aP bB;have aG:=aa (HF.j.push bc aP);clear bc aP bB));go_roundw
     case rel=>exact⟨j+1,by go_num,Zo,by rw[dG.j];exact aG⟩
     case measure=>exact Zm
  ·obtain rfl:j=M:=Zo;have h1:¬(j:Int)<(j:Int):=Zo
   have eO:Hid (dv w (.slice pv m cv) (K.T.map (iv K)) [] wr):=by
    have h9:=HR.j;rw[List.take_of_length_le (Nat.le_of_eq HM.j.symm)] at h9;exact h9
   clear HR hm eK;go_wp2_with fail
   all_goals
    go_ret;exact⟨_,rfl,eO.j.ow,eO.j.on⟩
end
end Go.Proofs.YtphkconoooeidaaGreatDoor

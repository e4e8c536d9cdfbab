import Derived.Test.YtphkconoooeidaaGreatDoorCp2
import Derived.Test.YtphkconoooeidaaGreatDoorCp3
set_option maxRecDepth 100000
set_option maxHeartbeats 8000000
set_option linter.unusedVariables false
set_option linter.unusedSimpArgs false
open Go Go.Vx Go.Proofs.Tryz Go.ChangeShapes Go.WideShapes Go.ChangeAt Go.RowKit
namespace Go.Vx
def tO (m:Int×Int×Int):List Value:=[Zu m.1,Zi m.2.1,Zi m.2.2]
def flat (ms:List (Int×Int×Int)):List Value:=ms.flatMap tO
theorem aeK (a b:List (Int×Int×Int)):flat (a++b)=flat a++flat b:=by simp[flat]
theorem S3 (m:Int×Int×Int):flat [m]=tO m:=by simp[flat]
theorem L1 (ms:List (Int×Int×Int)) (k j:Nat) (hk:k<ms.length) (hj:j<3):(flat ms)[k*3+j]?=(tO ms[k])[j]?:=by
 induction ms generalizing k with
 |nil=>simp at hk
 |cons m ms ih=>
  have e:flat (m::ms)=tO m++flat ms:=by simp[flat]
  rw[e]
  cases k with
  |zero=>
   rw[List.getElem?_append_left (by show 0*3+j<3;omega)]
   simp
  |succ k=>
   rw[List.getElem?_append_right (by show 3<=_;omega),show(k+1)*3+j - (tO m).length=k*3+j from by show(k+1)*3+j - 3=_;omega,ih k (by simpa using hk)];rfl
theorem aaP (ms:List (Int×Int×Int)):∀u∈flat ms,u.oneCell'=true:=by
 intro u hu;simp only[flat,List.mem_flatMap] at hu;obtain⟨m,_,hm⟩:=hu;simp only[tO,List.mem_cons,List.not_mem_nil,or_false] at hm;rcases hm with rfl|rfl|rfl<;>rfl
def gK (f:Nat->UInt8) (n root k:Nat):List (Int×Int×Int):=(List.range k).filterMap λi=>(jO f n root (4194304*i)).map λp=>(((4194304*i:Nat):Int),((p:Nat):Int),(0:Int))
theorem Oa (f:Nat->UInt8) (n root k:Nat):gK f n root (k+1)=gK f n root k++(match jO f n root (4194304*k) with|some p=>[(((4194304*k:Nat):Int),((p:Nat):Int),(0:Int))]|none=>[]):=by
 unfold gK;rw[List.range_succ,List.filterMap_append];congr 1;simp only[List.filterMap_cons,List.filterMap_nil];cases jO f n root (4194304*k)<;>rfl
theorem CP (f:Nat->UInt8) (n root k:Nat):(gK f n root k).length<=k:=by
 unfold gK;exact Nat.le_trans (List.length_filterMap_le _ _) (by simp)
theorem Ob {f:Nat->UInt8} {n root k:Nat} {t:Int×Int×Int} (h:t∈gK f n root k):∃i p:Nat,i<k/\p<n/\t=(((4194304*i:Nat):Int),((p:Nat):Int),(0:Int)):=by
 unfold gK at h;simp only[List.mem_filterMap,List.mem_range,Option.map_eq_some_iff] at h;obtain⟨i,hi,p,hp,rfl⟩:=h;exact⟨i,p,hi,I6 hp,rfl⟩
def iE (f:Nat->UInt8) (a p k:Nat):List (Int×Int×Int):=(List.range k).filterMap λi=>if cD f (4096*p+i*4) % 2=1 then some (((4194304*a+4096*i:Nat):Int),((cD f (4096*p+i*4)/1024:Nat):Int),((cD f (4096*p+i*4)/2 % 8:Nat):Int)) else none
theorem S1 (f:Nat->UInt8) (a p k:Nat):iE f a p (k+1)=iE f a p k++(if cD f (4096*p+k*4) % 2=1 then [(((4194304*a+4096*k:Nat):Int),((cD f (4096*p+k*4)/1024:Nat):Int),((cD f (4096*p+k*4)/2 % 8:Nat):Int))] else []):=by
 unfold iE;rw[List.range_succ,List.filterMap_append];congr 1;simp only[List.filterMap_cons,List.filterMap_nil];by_cases h:cD f (4096*p+k*4) % 2=1
 ·rw[if_pos h,if_pos h]
 ·rw[if_neg h,if_neg h]
theorem Mb (f:Nat->UInt8) (a p k:Nat):(iE f a p k).length<=k:=by
 unfold iE;exact Nat.le_trans (List.length_filterMap_le _ _) (by simp)
def gW (f:Nat->UInt8) (ts:List (Int×Int×Int)):List (Int×Int×Int):=ts.flatMap λt=>iE f (t.1.toNat/4194304) t.2.1.toNat 1024
theorem abD (f:Nat->UInt8) (a b:List (Int×Int×Int)):gW f (a++b)=gW f a++gW f b:=by simp[gW]
theorem abC (f:Nat->UInt8) (t:Int×Int×Int):gW f [t]=iE f (t.1.toNat/4194304) t.2.1.toNat 1024:=by
 unfold gW;rw[List.flatMap_cons,List.flatMap_nil,List.append_nil]
theorem JY (f:Nat->UInt8) (ts:List (Int×Int×Int)):(gW f ts).length<=ts.length*1024:=by
 induction ts with
 |nil=>simp[gW]
 |cons t ts ih=>
  have e:gW f (t::ts)=iE f (t.1.toNat/4194304) t.2.1.toNat 1024++gW f ts:=by simp[gW]
  have:=Mb f (t.1.toNat/4194304) t.2.1.toNat 1024;rw[e,List.length_append,List.length_cons];omega
theorem PZ (f:Nat->UInt8) (ts:List (Int×Int×Int)) (j:Nat) (hj:j<ts.length):gW f (ts.take (j+1))=gW f (ts.take j)++iE f (ts[j].1.toNat/4194304) ts[j].2.1.toNat 1024:=by
 rw[List.take_succ_eq_append_getElem hj,abD,abC]
def lA (w:World) (base:Nat) (e:TypeId) (v:Value) (ms:List (Int×Int×Int)):Prop:=w.ownsRow base e 3 v ms.length (flat ms)
theorem lA.quiet {w w':World} {base:Nat} {e:TypeId} {v:Value} {ms:List (Int×Int×Int)} (h:lA w base e v ms) (ho:Zq w w'):lA w' base e v ms:=by
 refine World.ownsRow.kept h ho.both ?_
 cases hv:v.ownBlock with
 |none=>exact Or.inl rfl
 |some k=>exact Or.inr (by simp)
theorem lA.form {w:World} {base:Nat} {e:TypeId} {v:Value} {ms:List (Int×Int×Int)} (h:lA w base e v ms):∃p c,v=.slice p ms.length c/\ms.length<=c/\c<=maxLen/\(0<ms.length->∃g,p=some ⟨g,0,none⟩/\base<=g/\g<w.heap.size):=by
 rcases h.2 with⟨hv,h0⟩|⟨g,cap,cur,hv,hb,hg,oa,jo,_⟩
 ·exact⟨none,0,by rw[hv,h0],Zo,Zd,λh=>Zo⟩
 ·exact⟨_,cap,hv,oa,jo,λ_=>⟨g,rfl,hb,au hg⟩⟩
theorem lA.at {w:World} {base g c:Nat} {e:TypeId} {ms:List (Int×Int×Int)} (h:lA w base e (Zs g ms.length c) ms) (k:Nat) (hk:k<ms.length):
  w.cell? ⟨g,k*3,none⟩=some (Zu ms[k].1)/\w.cell? ⟨g,k*3+1,none⟩=some (Zi ms[k].2.1)/\w.cell? ⟨g,k*3+2,none⟩=some (Zi ms[k].2.2):=by
 have h0:=World.ownsRow.cellAt h (k*3) Zo;have h1:=World.ownsRow.cellAt h (k*3+1) Zo;have h2:=World.ownsRow.cellAt h (k*3+2) Zo;have g0:=L1 ms k 0 hk Zd;rw[Nat.add_zero] at g0;rw[g0] at h0;rw[L1 ms k 1 hk Zd] at h1;rw[L1 ms k 2 hk Zd] at h2;exact⟨h0,h1,h2⟩
end Go.Vx
namespace Go.Proofs.YtphkconoooeidaaGreatDoor
theorem adJ:∃i,prog.info? 232=some i/\i.zero=some (.agg #[Zu 0,Zi 0,Zi 0])/\i.size=3/\i.bytes=24:=by
 have h:(prog.info? 232).map (λi=>(i.zero,i.size,i.bytes))=some (some (.agg #[Zu 0,Zi 0,Zi 0]),3,24):=Zx
 cases hq:prog.info? 232 with
 |none=>rw[hq] at h;simp at h
 |some i=>
  rw[hq] at h;simp only[Option.map_some,Option.some.injEq,Prod.mk.injEq] at h;exact⟨i,rfl,h.1,h.2.1,h.2.2⟩
theorem Ig (w:World) {ops:Array Oper} {rest:List Oper} {o:Oper} {a:Act} {Q:Exit->Act->World->Prop} (fu:o.guard=none) (s x:Operand)
  (ho:o.op=.call {callee:=.builtin .append,args:=#[s,x],argTypes:=#[221,221]}) (base:Nat) (v:Value) (ms:List (Int×Int×Int)) (hs:a.eval s=v) (jF:lA w base 232 v ms)
  (y:Int×Int×Int) (hx:a.eval x=Zs w.heap.size 1 1) (hlen:ms.length<=2000000) (jb:base<=w.heap.size)
  (h:∀g cap w',lA w' base 232 (Zs g (ms.length+1) cap) (ms++[y])->ae (λk=>v.ownBlock=some k) w w'->(v.ownBlock=some g\/w.heap.size<=g)->wpList prog ops Q rest (a.put o.dst (Zs g (ms.length+1) cap)) w'):
  wpList prog ops Q (o::rest) a (w.alloc (.cells #[Zu y.1,Zi y.2.1,Zi y.2.2] 232)):=by
 obtain⟨i,hi,hz,aR,B6⟩:=adJ;refine Wc _ fu s x 221 ho base 232 i _ 3 24 underlying221 hi hz aR B6 rfl Zd v ms.length (flat ms) hs (World.ownsRow.alloc jF _) ⟨w.heap.size,0,none⟩ 1 1 (tO y) hx rfl (λj u hj=>?_) (λu hu=>aaP [y] u (by rw[S3];exact hu)) Zd (by unfold maxLen;omega) Zo (by simp;omega) (λg cap w' h1 h2 h3=>?_)
 ·rw[pY,Nat.zero_add,cell_of_row _ _ j _ _ (0,0) (heap_alloc_last w _)];have wJ:(tO y)[j]?=some u:=hj;simpa[tO] using wJ
 ·refine h g cap w' ?_ ?_ (by rcases h2 with h2|h2;exact Or.inl h2.1;exact Or.inr (by rw[h2.1];simp))
  ·show w'.ownsRow _ _ _ _ (ms++[y]).length (flat (ms++[y]));rw[aeK,S3,List.length_append];exact h1
  ·rcases h2 with⟨h2,h4⟩|⟨_,h4⟩
   ·exact ae.grown (((ae.refl (λk=>v.ownBlock=some k) w).alloc _)) h4 (λk hk=>Or.inl (by rw[h2,hk]))
   ·exact ae.grown (((ae.refl (λk=>v.ownBlock=some k) w).alloc _)) h4 (λk hk=>by cases hk)
structure fm (w:World) (v:Value) (ms:List (Int×Int×Int)) (wr:World):Prop where
 o:lA wr w.heap.size 232 v ms
 on:Zq w wr
theorem fm.quiet {w:World} {v:Value} {ms:List (Int×Int×Int)} {wr wx:World} (h:fm w v ms wr) (ho:Zq wr wx):fm w v ms wx:=⟨h.o.quiet ho,h.on.trans ho⟩
theorem fm.push {w:World} {v v':Value} {ms Db:List (Int×Int×Int)} {wr wx:World} (h:fm w v ms wr) (ho:lA wx w.heap.size 232 v' Db) (ay:ae (λk=>v.ownBlock=some k) wr wx):fm w v' Db wx:=
 ⟨ho,⟨ay.os.trans h.on.os,ay.tape.trans h.on.tape,ay.output.trans h.on.output,Nat.le_trans h.on.size ay.size,λk hk _=>(ay.block k (Nat.lt_of_lt_of_le hk h.on.size) (λe=>by have:=(World.ownsRow.lt h.o k e).1;omega)).trans (h.on.block k hk (λh=>h))⟩⟩
theorem fm.start {w w1:World} (ho:Zq w w1):fm w (.slice none 0 0) [] w1:=⟨World.ownsRow_nil _ _ _ _,ho⟩
theorem WZ {U:Nat->Prop} {w:World} {bm n:Nat} {f:Nat->UInt8} (h:dF U w bm n f) (root:Int) (hb:hasB n root=false):
  Zk 187 #[Zp bm,Zi root] w λe w'=>Zr e (.tuple #[.slice none 0 0,Zi 1])/\Zq w w':=by
 have jg:=aa (I4 h root);rw[hb] at jg;clear h hb;go_enter func187,ntmps187;go_wp2_with fail;refine jg.j.m ?_;rintro e w1 ⟨rfl,h1⟩;have bX:Hid (Zq w w1):=by show ae _ _ _;rw[h1];exact(ae.refl _ w).alloc _
 clear h1;go_wp2_with fail
 all_goals
  go_ret2;exact⟨rfl,bX.j⟩
theorem WY {U:Nat->Prop} {w:World} {bm n:Nat} {f:Nat->UInt8} (h:dF U w bm n f) (root:Nat) (hb:root<n):
  Zk 187 #[Zp bm,Zi (root:Int)] w λe w'=>∃v,Zr e (.tuple #[v,Zi 0])/\fm w v (gK f n root 1024) w':=by
 have jg:=aa (I4 h (root:Int));rw[show hasB n (root:Int)=true by simp[hasB];exact hb] at jg;have HM:=aa h;have dC:=aa (λva (hv:va<4294967296) wv (hm:dF U wv bm n f)=>Od hm root va hb hv);clear h hb;go_enter func187,ntmps187;go_wp2_with fail;refine jg.j.m ?_;rintro e w1 ⟨rfl,h1⟩;have bX:Hid (Zq w w1):=by show ae _ _ _;rw[h1];exact(ae.refl _ w).alloc _
 clear h1;go_wp2_with fail
 go_loopw [6,16] (λlv d wr=>∃k:Nat,d=Zu (k:Int)/\k<=1024/\Hid (fm w lv (gK f n root k) wr)) (λ_ d _=>1024 - (RowKit.intOf d).toNat)
 case atStart=>exact⟨0,rfl,Zo,fm.start bX.j⟩
 case round=>
  obtain⟨k,rfl,hk,HR⟩:=hrel;by_cases ah:k<1024
  ·have h1:(k:Int)<1024:=Zo;have FK:IntKind.u32.wrap ((k:Int)+1)=(k:Int)+1:=by rw[IntKind.wrap_u32];omega
   have e1:(k:Int)*4194304=((4194304*k:Nat):Int):=Zo;have xE:IntKind.u32.wrap ((4194304*k:Nat):Int)=((4194304*k:Nat):Int):=by rw[IntKind.wrap_u32];omega
   have fY:=aa (dC.j (4194304*k) Zo wr (HM.j.quiet HR.j.on));have cX:=aa (CP f n root k);have HS:=aa (Oa f n root k);generalize 4194304*k=va at e1 xE fY HS;generalize jO f n root va=TF at fY HS
   cases TF with
   |none=>
    have aw:Hid (gK f n root (k+1)=gK f n root k):=by show _=_;rw[HS.j];exact List.append_nil _
    clear HS;simp only[Option.getD_none,Option.isSome_none] at fY;go_wp2_with fail;refine fY.j.m ?_;rintro e w2 ⟨rfl,aC⟩;have bW:Hid (fm w u6 (gK f n root (k+1)) w2):=by show fm _ _ _ _;rw[aw.j];exact HR.j.quiet aC
    clear aC;go_wp2_with fail;go_roundw
    case rel=>exact⟨k+1,by go_num,Zo,bW⟩
    case measure=>exact Zm
   |some p=>
    simp only[Option.getD_some,Option.isSome_some] at fY;go_wp2_with fail;refine fY.j.m ?_;rintro e w2 ⟨rfl,aC⟩;have bW:=aa (HR.j.quiet aC);clear aC;have kH:(gK f n root k).length<=2000000:=by have:=cX.j;omega
    have cw:w.heap.size<=w2.heap.size:=bW.j.on.size;have lD:=aa kH;have fZ:=aa cw;clear kH cw;go_wp2_with (at_builtin;refine Ig _ rfl _ _ rfl w.heap.size _ _ rfl bW.j.o ((va:Int),(p:Int),0) rfl lD.j fZ.j (λg cap w3 h1 h2 _=>?_));have cZ:Hid (fm w (Zs g ((gK f n root k).length+1) cap) (gK f n root (k+1)) w3):=by show fm _ _ _ _;rw[HS.j];exact bW.j.push h1 h2
    clear h1 h2;go_wp2_with fail;go_roundw
    case rel=>exact⟨k+1,by go_num,Zo,cZ⟩
    case measure=>exact Zm
  ·obtain rfl:k=1024:=Zo;clear ah hk;go_wp2_with fail
   all_goals
    go_ret2;exact⟨_,rfl,HR.j⟩
theorem abF {U:Nat->Prop} {w:World} {bm n:Nat} {f:Nat->UInt8} (h:dF U w bm n f) (root:Int) (hb:hasB n root=false):
  Zk 146 #[Zp bm,Zi root] w λe w'=>Zr e (.tuple #[.slice none 0 0,Zi 1])/\Zq w w':=by
 have dC:=aa (WZ h root hb);clear h hb;go_enter func146,ntmps146;go_wp2_with fail;refine dC.j.m ?_;rintro e w1 ⟨rfl,aB⟩;have bX:=aa aB;clear aB;go_wp2_with fail
 go_loopw [8,23] (λv d wr=>v=.slice none 0 0/\d=Zi 0/\wr=w1) (λ_ _ _=>0)
 case atStart=>exact⟨rfl,rfl,rfl⟩
 case round=>
  obtain⟨rfl,rfl,rfl⟩:=hrel;go_wp2_with fail
  all_goals
   go_ret2;exact⟨rfl,bX.j⟩
structure qQ (w1:World) (tb:Nat) (y:Int×Int×Int) (v:Value) (ms:List (Int×Int×Int)) (wx:World):Prop where
 lk:fm w1 v ms wx
 eR:wx.heap[tb]?=some (.cells #[Zu y.1,Zi y.2.1,Zi y.2.2] 232 (0,0))
 ne:v.ownBlock≠some tb
theorem qQ.quiet {w1:World} {tb:Nat} {y:Int×Int×Int} {v:Value} {ms:List (Int×Int×Int)} {wx wy:World} (h:qQ w1 tb y v ms wx) (ho:Zq wx wy):qQ w1 tb y v ms wy:=
 ⟨h.lk.quiet ho,by rw[ho.block tb (au h.eR) (λh=>h)];exact h.eR,h.ne⟩
theorem qQ.push {w1:World} {tb:Nat} {y:Int×Int×Int} {v:Value} {ms Db:List (Int×Int×Int)} {wx wy:World} {g m c:Nat} (h:qQ w1 tb y v ms wx) (ho:lA wy w1.heap.size 232 (Zs g m c) Db) (ay:ae (λk=>v.ownBlock=some k) wx wy) (hg:v.ownBlock=some g\/wx.heap.size<=g):qQ w1 tb y (Zs g m c) Db wy:=by
 have hl:=au h.eR;refine⟨h.lk.push ho ay,by rw[ay.block tb hl h.ne];exact h.eR,λe=>?_⟩;have e':g=tb:=by simpa[Value.ownBlock] using e
 subst e';rcases hg with hg|hg
 ·exact h.ne hg
 ·omega
theorem qQ.start {w1 wr:World} {v:Value} {ms:List (Int×Int×Int)} (h:fm w1 v ms wr) (y:Int×Int×Int):qQ w1 wr.heap.size y v ms (wr.alloc (.cells #[Zu y.1,Zi y.2.1,Zi y.2.2] 232)):=
 ⟨h.quiet ((ae.refl _ _).alloc _),heap_alloc_last _ _,λe=>by have:=(World.ownsRow.lt h.o _ e).2;omega⟩
theorem abE {U:Nat->Prop} {w:World} {bm n:Nat} {f:Nat->UInt8} (h:dF U w bm n f) (root:Nat) (hb:root<n):
  Zk 146 #[Zp bm,Zi (root:Int)] w λe w'=>∃v,Zr e (.tuple #[v,Zi 0])/\fm w v (gW f (gK f n root 1024)) w':=by
 have hn:=h.top;have dC:=aa (WY h root hb);have HM:=aa h;have cX:=aa (CP f n root 1024);have sP:Hid (∀t∈gK f n root 1024,∃i p:Nat,i<1024/\p<n/\t=(((4194304*i:Nat):Int),((p:Nat):Int),(0:Int))):=λt ht=>Ob ht
 have CB:=aa (λt va (ht:t<n) (hv:va<4294967296) wv=>S2 t va Zo hv wv);have fP:=aa (λt va (ht:t<n) wv (hm:dF U wv bm n f)=>IU hm (fc t va) (Hs _ _) (Em ht));generalize gK f n root 1024=ts at dC cX sP;clear h hb hn;go_enter func146,ntmps146;go_wp2_with fail;refine dC.j.m ?_;rintro e w1 ⟨vt,rfl,ja⟩;have nO:=aa ja;obtain⟨pt,ct,rfl,uZ,jo,DC⟩:=ja.o.form;have lC:=aa DC;have pR:(ts.length:Int)<=1024:=by have:=cX.j;omega
 obtain⟨L,hL⟩:=Ze (ts.length);have HL:=aa hL;rw[<-hL] at pR nO lC|-;clear ja DC uZ jo hL;go_wp2_with fail
 go_loopw [8,23] (λv d wr=>∃j:Nat,d=Zi (j:Int)/\j<=L/\Hid (fm w1 v (gW f (ts.take j)) wr)) (λ_ d _=>L - (RowKit.intOf d).toNat)
 case atStart=>exact⟨0,rfl,Zo,fm.start (ae.refl _ _)⟩
 case round=>
  obtain⟨j,rfl,hj,HR⟩:=hrel;by_cases ah:j<L
  ·have h1:(j:Int)<(L:Int):=Zo;have bf:0<=(j:Int)/\(j:Int)<(L:Int):=Zo;have sx:j<ts.length:=by have:=HL.j;omega
   have FK:IntKind.i64.wrap ((j:Int)+1)=(j:Int)+1:=by rw[IntKind.wrap_i64];omega
   obtain⟨gt,rfl,lQ,lP⟩:=lC.j Zo;have lR:=(show lA wr w.heap.size 232 (Zs gt ts.length ct) ts from by have:=nO.j.o.quiet HR.j.on;rw[HL.j] at this;exact this).at j sx;obtain⟨i,p,hi,hp,pP⟩:=sP.j ts[j] (List.getElem_mem _)
   have fY:Hid (gW f (ts.take (j+1))=gW f (ts.take j)++iE f i p 1024):=by
    show _=_;rw[PZ f ts j sx,pP];simp only[Int.toNat_natCast];rw[show 4194304*i/4194304=i from Zo]
   rw[pP] at lR;obtain⟨c0,c1,c2⟩:=lR;simp only at c0 c1 c2;have cN:=aa (qQ.start HR.j (((4194304*i:Nat):Int),((p:Nat):Int),(0:Int)));have zz:=aa (JY f (ts.take j));have gv:Hid ((ts.take j).length<=1024):=by show _<=_;rw[List.length_take];omega
   obtain⟨A,hA⟩:=Ze (4194304*i);rw[<-hA] at c0 cN;have HA:Hid (A=4194304*i/\i<1024/\p<n):=⟨hA,hi,hp⟩
   generalize gW f (ts.take j)=ms at HR fY cN zz;clear pP hA hi hp sx ah HR;go_wp2_with fail;obtain⟨w2,aT⟩:=Ze (wr.alloc (.cells #[Zu (A:Int),Zi (p:Int),Zi 0] 232));rw[<-aT] at cN|-;clear aT c0 c1 c2;generalize wr.heap.size=tb at cN|-
   go_loopw [8,27] (λv d wx=>∃k:Nat,d=Zu (k:Int)/\k<=1024/\Hid (qQ w1 tb ((A:Int),(p:Int),(0:Int)) v (ms++iE f i p k) wx)) (λ_ d _=>1024 - (RowKit.intOf d).toNat)
   case atStart=>exact⟨0,rfl,Zo,by show qQ _ _ _ _ _ _;rw[show iE f i p 0=[] from rfl,List.append_nil];exact cN.j⟩
   case round=>
    clear cN;obtain⟨k,rfl,hk,HR⟩:=hrel;by_cases dA:k<1024
    ·have d1:(k:Int)<1024:=Zo;have v1:IntKind.u32.wrap ((k:Int)+1)=(k:Int)+1:=by rw[IntKind.wrap_u32];omega
     have e1:(k:Int)*4096=((4096*k:Nat):Int):=Zo;have v2:IntKind.u32.wrap ((4096*k:Nat):Int)=((4096*k:Nat):Int):=by rw[IntKind.wrap_u32];omega
     have e2:(A:Int)+((4096*k:Nat):Int)=((4194304*i+4096*k:Nat):Int):=by have:=HA.j.1;omega
     have v3:IntKind.u32.wrap ((4194304*i+4096*k:Nat):Int)=((4194304*i+4096*k:Nat):Int):=by have:=HA.j.2.1;rw[IntKind.wrap_u32];omega
     have nQ:=aa (CB.j p (4194304*i+4096*k) HA.j.2.2 (by have:=HA.j.2.1;omega));have eV:=aa (fP.j p (4194304*i+4096*k) HA.j.2.2 wr ((HM.j.quiet nO.j.on).quiet HR.j.lk.on));have hP:fc p (4194304*i+4096*k)=4096*p+k*4:=by unfold fc;omega
     rw[hP] at nQ eV;have HS:=aa (S1 f i p k);have g0:wr.cell? ⟨tb,0,none⟩=some (Zu (A:Int)):=by rw[cell_of_row _ _ 0 _ _ (0,0) HR.j.eR];rfl
     have g1:wr.cell? ⟨tb,1,none⟩=some (Zi (p:Int)):=by rw[cell_of_row _ _ 1 _ _ (0,0) HR.j.eR];rfl
     have nP:Hid ((ms++iE f i p k).length<=2000000):=by
      show _<=_;have h1:=zz.j;have h2:=gv.j;have h3:=Mb f i p k;rw[List.length_append];omega
     generalize 4194304*i+4096*k=VA at e2 v3 nQ eV HS;generalize 4096*p+k*4=P at nQ eV HS;generalize 4096*k=K4 at e1 v2 e2;have oS:=FH f P;generalize cD f P=wd at eV HS oS
     have cY:bits .and .u32 (wd:Int) 1=((wd % 2:Nat):Int):=by
      rw[u32_and (wd:Int) 1 Zo Zo Zd Zd];show((wd&&&1:Nat):Int)=_;rw[Nat.and_one_is_mod]
     have qR:=aa (λwv=>NT wd oS wv);have dp:=aa (λwv=>Wl wd oS wv);clear oS hP;by_cases hw:wd % 2=1
     ·have cw:bits .and .u32 (wd:Int) 1=1:=by rw[cY,hw];rfl
      have aw:Hid (iE f i p (k+1)=iE f i p k++[((VA:Int),((wd/1024:Nat):Int),((wd/2 % 8:Nat):Int))]):=by show _=_;rw[HS.j,if_pos hw]
      generalize wd/1024=pg at qR aw;generalize wd/2 % 8=rt at dp aw;clear cY hw HS;go_wp2_with fail;refine(nQ.j _).e1 ?_;go_wp2_with fail;refine eV.j.m ?_;rintro e w3 ⟨rfl,aN⟩;have cZ:=aa (HR.j.quiet aN);clear aN;go_wp2_with fail;refine(qR.j _).e1 ?_;go_wp2_with fail;refine(dp.j _).e1 ?_;have bJ:Hid (w1.heap.size<=w3.heap.size):=cZ.j.lk.on.size;go_wp2_with (at_builtin;refine Ig _ rfl _ _ rfl w1.heap.size _ _ rfl cZ.j.lk.o ((VA:Int),(pg:Int),(rt:Int)) rfl nP.j bJ.j (λg cap w4 h1 h2 h3=>?_))
      have dK:Hid (qQ w1 tb ((A:Int),(p:Int),(0:Int)) (Zs g ((ms++iE f i p k).length+1) cap) (ms++iE f i p (k+1)) w4):=by
       show qQ _ _ _ _ _ _;rw[aw.j,<-List.append_assoc];exact cZ.j.push h1 h2 h3
      clear h1 h2 h3;go_wp2_with fail;go_roundw
      case rel=>exact⟨k+1,by go_num,Zo,by have h:=dK.j;rw[List.length_append] at h;exact h⟩
      case measure=>exact Zm
     ·have cw:bits .and .u32 (wd:Int) 1=0:=by rw[cY,show wd % 2=0 from Zo];rfl
      have aw:Hid (iE f i p (k+1)=iE f i p k):=by show _=_;rw[HS.j,if_neg hw,List.append_nil]
      clear cY hw HS;go_wp2_with fail;refine(nQ.j _).e1 ?_;go_wp2_with fail;refine eV.j.m ?_;rintro e w3 ⟨rfl,aN⟩;have cZ:=aa (HR.j.quiet aN);clear aN;go_wp2_with fail;go_roundw
      case rel=>exact⟨k+1,by go_num,Zo,by show qQ _ _ _ _ _ _;rw[aw.j];exact cZ.j⟩
      case measure=>exact Zm
    ·obtain rfl:k=1024:=Zo;clear dA hk;have bW:Hid (fm w1 u8 (gW f (ts.take (j+1))) wr):=by show fm _ _ _ _;rw[fY.j];exact HR.j.lk
     go_wp2_with fail;go_roundw
     case rel=>exact⟨j+1,by go_num,Zo,bW⟩
     case measure=>exact Zm
  ·obtain rfl:j=L:=Zo;have h1:¬(j:Int)<(j:Int):=Zo
   have HF:Hid (gW f (ts.take j)=gW f ts):=by
    show _=_;rw[List.take_of_length_le (by have:=HL.j;omega)]
   clear ah hj;go_wp2_with fail
   all_goals
    go_ret2;refine⟨_,rfl,?_⟩;have:=HR.j;rw[HF.j] at this;exact⟨⟨this.o.1,this.o.2.imp (λh=>h) (λ⟨g,cap,cur,a,b,c⟩=>⟨g,cap,cur,a,Nat.le_trans nO.j.on.size b,c⟩)⟩,nO.j.on.trans this.on⟩
section
variable {B:Nat->Prop} {w:World} {bb o:Nat} {T:TypeId} {cs:Array Value} {V:Nat->Value} {L:Nat->List Sh}
theorem bk2:Kind prog mV 44 221:=kG (z:=.slice none 0 0) (b:=24) underlying44 Zx rfl Zd
def mj:Lay (Int×Int×Int):=⟨tO,3,λ_=>rfl,λa u hu=>by simp only[tO,List.mem_cons,List.not_mem_nil,or_false] at hu;rcases hu with rfl|rfl|rfl<;>rfl,Zd⟩
theorem m3K:Kind prog mj 221 232:=kG (z:=.agg #[Zu 0,Zi 0,Zi 0]) (b:=24) underlying221 Zx rfl Zd
def uK (c:Int):Int×Int×Int:=(0,c,0)
theorem Pz {w:World} {base g c m:Nat} {T:TypeId} {xs:List (Int×Int×Int)} (h:ai mj w base T (Zs g m c) xs) (hm:m=xs.length) (k:Nat) (hk:k<xs.length) (y:Int×Int×Int):
  ai mj (((w.setCell ⟨g,k*3,none⟩ (Zu y.1)).setCell ⟨g,k*3+1,none⟩ (Zi y.2.1)).setCell ⟨g,k*3+2,none⟩ (Zi y.2.2)) base T (Zs g m c) (xs.set k y)/\ae (λb=>b=g) w (((w.setCell ⟨g,k*3,none⟩ (Zu y.1)).setCell ⟨g,k*3+1,none⟩ (Zi y.2.1)).setCell ⟨g,k*3+2,none⟩ (Zi y.2.2)):=by
 subst hm;have h0:=(World.ownsRow.stored h (k*3) (Zu y.1)).1;have h1:=(World.ownsRow.stored h0 (k*3+1) (Zi y.2.1)).1;have h2:=(World.ownsRow.stored h1 (k*3+2) (Zi y.2.2)).1;have o1:ae (λb=>b=g) w (w.setCell ⟨g,k*3,none⟩ (Zu y.1)):=ae.setCell (S:=λb=>b=g) (ae.refl _ w) (Or.inl rfl) _;have o2:=ae.setCell (S:=λb=>b=g) o1 (p:=⟨g,k*3+1,none⟩) (Or.inl rfl) (Zi y.2.1);have o3:=ae.setCell (S:=λb=>b=g) o2 (p:=⟨g,k*3+2,none⟩) (Or.inl rfl) (Zi y.2.2);refine⟨?_,o3⟩
 have hz:(((fl mj xs).set (k*3) (Zu y.1)).set (k*3+1) (Zi y.2.1)).set (k*3+2) (Zi y.2.2)=fl mj (xs.set k y):=by
  refine AT mj xs k y hk _ (by simp) (λj hj=>?_) (λi hi=>?_)
  ·have wJ:j<3:=hj;have hlen:(fl mj xs).length=xs.length*3:=j8 mj xs;have jD:mj.sz=3:=rfl;rw[jD,List.getElem?_set,List.getElem?_set,List.getElem?_set];rcases(by omega:j=0\/j=1\/j=2) with rfl|rfl|rfl
   ·rw[if_neg Zo,if_neg Zo,if_pos Zo,if_pos (by rw[hlen];omega)];rfl
   ·rw[if_neg Zo,if_pos Zo,if_pos (by rw[List.length_set,hlen];omega)];rfl
   ·rw[if_pos Zo,if_pos (by rw[List.length_set,List.length_set,hlen];omega)];rfl
  ·have jD:mj.sz=3:=rfl;rw[jD] at hi;rw[List.getElem?_set,List.getElem?_set,List.getElem?_set,if_neg Zo,if_neg Zo,if_neg Zo]
 rw[hz] at h2;show World.ownsRow _ _ _ _ _ (xs.set k y).length _;rw[List.length_set];exact h2
theorem aar {base:Nat} {l:Value} {ms:List (Int×Int×Int)} (hk:gI B w bb o T cs V L) (aR:(L 2).length<=1000000) (hl:ai mj w base 232 l ms) (jb:base<=w.heap.size) (hm:ms.length<=2000000) (kj:∀k,l.ownBlock=some k->¬B k/\k≠bb):
  Zk 87 #[.pointer (some ⟨bb,o,none⟩),l] w λe w'=>Zr e (.tuple #[])/\∃jd v2 s1 s2,gI (λk=>B k\/l.ownBlock=some k\/(w.heap.size<=k/\k<w'.heap.size)) w' bb o T jd (fh V 2 v2) (fh L 2 (L 2++[s1,s2]))/\(∀i,i<o->jd[i]?=cs[i]?)/\ae (λk=>B k\/l.ownBlock=some k\/k=bb) w w':=by
 obtain⟨pl,cl,rfl,_,_,lN⟩:=hl.form;obtain⟨pv,cv,hv,_⟩:=(hk.k 2 Zd).at;have h5:w.cell? ⟨bb,o+2,none⟩=some (V 2):=hk.cell (j:=2) Zd;obtain⟨Ln,hL⟩:=Ze ((L 2).length);obtain⟨N,hN⟩:=Ze (ms.length);have q0:Int.tdiv (Ln:Int) 2=((Ln/2:Nat):Int):=by rw[Int.tdiv_eq_ediv_of_nonneg Zo];omega
 have iX:(Ln:Int)/2=((Ln/2:Nat):Int):=Zo;have q1:=Zh ((Ln/2:Nat):Int) Zo;obtain⟨c,hc⟩:∃c:Int,c= -77 - ((Ln/2:Nat):Int):=⟨_,rfl⟩
 have q2: -77 - ((Ln/2:Nat):Int)=c:=hc.symm;have q3:=Zh c Zo;rw[<-hN] at kj lN|-
 have sR:Hid (∀k,(Value.slice pl N cl).ownBlock=some k->k<w.heap.size):=λk iC=>by
  obtain⟨_,⟨cur,h⟩,_⟩:=hl.eR (k:=k) (by rw[<-hN];exact iC);exact au h
 have H0:Hid (pn mj 232 (uK c) w base (.slice pl N cl) N 0 (w.alloc (.cells #[Zu 0,Zi c,Zi 0] 232))):=⟨⟨ms,by rw[hN];exact hl.kept ((ae.refl _ _).alloc _) (λ_ _ h=>h),hN.symm,λk hk=>Zo⟩,(ae.refl _ _).alloc _⟩
 have rX:Hid ((w.alloc (.cells #[Zu 0,Zi c,Zi 0] 232)).heap[w.heap.size]?=some (.cells #[Zu 0,Zi c,Zi 0] 232 (0,0))):=heap_alloc_last _ _;have kB:=aa kj;have gT:=aa lN;have nR:Hid (c= -77 - (((L 2).length/2:Nat):Int)):=by show c=_;rw[hc,hL]
 have HK:=aa hk;have xx:=aa jb;have jY:=aa aR;have HV:Hid (V 2=.slice pv Ln cv):=by show V 2=_;rw[hv,hL]
 have wP:N<=2000000:=Zo;have Hk:(N:Int)<=2000000:=Zo;rw[hv,<-hL] at h5;obtain⟨mb,fa⟩:=Ze (w.heap.size);have fQ:Hid (w.heap.size<=mb+1/\(mb=w.heap.size)):=⟨Zo,fa⟩
 clear hc;generalize Ln/2=q at q0 iX q1 q2;clear hk aR hl jb hm kj lN hN hv hL;go_enter func87,ntmps87;go_wp2_with fail;rw[<-fa] at rX|-;obtain⟨w0,oR⟩:=Ze (w.alloc (.cells #[Zu 0,Zi c,Zi 0] 232));have af:Hid (mb<w0.heap.size):=by show mb<w0.heap.size;rw[oR,fa];simp
 rw[<-oR] at H0 rX|-;clear oR;clear fa h5
 go_loopw [5] (λd wr=>∃i:Nat,d=Zi (i:Int)/\i<=N/\Hid (mb<wr.heap.size)/\Hid (pn mj 232 (uK c) w base (.slice pl N cl) N i wr)/\Hid (wr.heap[mb]?=some (.cells #[Zu 0,Zi c,Zi 0] 232 (0,0)))) (λd _=>N - (RowKit.intOf d).toNat)
 case atStart=>exact⟨0,rfl,Zo,af,H0,rX⟩
 case round=>
  clear H0 af;obtain⟨i,rfl,hi,HS,HR,cB⟩:=hrel;by_cases ah:i<N
  ·have d1:(i:Int)<(N:Int):=Zo;have bf:0<=(i:Int)/\(i:Int)<(N:Int):=Zo;have v1:=Zf i Zo;obtain⟨g,rfl,_,_⟩:=gT.j Zo;obtain⟨si,cL,fV,ja⟩:=HR.j.ex;obtain⟨y0,c0⟩:∃y,wr.cell? ⟨g,i*3,none⟩=some y:=⟨_,(cL.cell i 0 Zo Zd).trans rfl⟩
   obtain⟨y1,c1⟩:∃y,wr.cell? ⟨g,i*3+1,none⟩=some y:=⟨_,(cL.cell i 1 Zo Zd).trans rfl⟩
   obtain⟨y2,c2⟩:∃y,wr.cell? ⟨g,i*3+2,none⟩=some y:=⟨_,(cL.cell i 2 Zo Zd).trans rfl⟩
   have f0:=cL.fz (i*3);have f1:=cL.fz (i*3+1);have f2:=cL.fz (i*3+2);have m0:wr.cell? ⟨mb,0,none⟩=some (Zu 0):=Zl cB.j;have m1:wr.cell? ⟨mb,1,none⟩=some (Zi c):=Zl cB.j;have m2:wr.cell? ⟨mb,2,none⟩=some (Zi 0):=Zl cB.j;have aw:Hid (mb<(((wr.setCell ⟨g,i*3,none⟩ (Zu 0)).setCell ⟨g,i*3+1,none⟩ (Zi c)).setCell ⟨g,i*3+2,none⟩ (Zi 0)).heap.size):=by show mb<_;simpa using HS.j
   have bW:Hid (pn mj 232 (uK c) w base (Zs g N cl) N (i+1) (((wr.setCell ⟨g,i*3,none⟩ (Zu 0)).setCell ⟨g,i*3+1,none⟩ (Zi c)).setCell ⟨g,i*3+2,none⟩ (Zi 0))):=by
    obtain⟨s1,s2⟩:=Pz cL fV.symm i Zo (uK c);refine⟨⟨si.set i (uK c),s1,by simp[fV],λk hk=>?_⟩,?_⟩
    ·rw[List.getElem?_set];by_cases jn:i=k
     ·rw[if_pos jn,if_pos Zo]
     ·rw[if_neg jn];exact ja k Zo
    ·exact HR.j.on.trans (s2.mono (λk _ hk=>by rw[hk];rfl))
   have p9:Hid ((((wr.setCell ⟨g,i*3,none⟩ (Zu 0)).setCell ⟨g,i*3+1,none⟩ (Zi c)).setCell ⟨g,i*3+2,none⟩ (Zi 0)).heap[mb]?=some (.cells #[Zu 0,Zi c,Zi 0] 232 (0,0))):=by
    obtain⟨s1,s2⟩:=Pz cL fV.symm i Zo (uK c);exact(s2.block mb (au cB.j) (λe=>by have:=sR.j g rfl;have:=fQ.j;omega)).trans cB.j
   clear cL fV ja ah HR;go_wp2_with fail;go_roundw
   case rel=>exact⟨i+1,by go_num,Zo,aw,bW,p9⟩
   case measure=>exact Zm
  ·obtain rfl:i=N:=Zo;have d1:¬(i:Int)<(i:Int):=Zo;have nS:Hid (oC (o8 2) mj 232 (uK c) w mb base (.slice pl i cl) i 0 (.slice pl i cl) wr):=EF Zd HR.j;clear ah hi HR;go_wp2_with fail
   go_loopw [6,7] (λy d wr=>∃j:Nat,d=Zi (j:Int)/\j<=33/\Hid (mb<wr.heap.size)/\Hid (oC (o8 2) mj 232 (uK c) w mb base (.slice pl i cl) i j y wr)/\Hid (wr.heap[mb]?=some (.cells #[Zu 0,Zi c,Zi 0] 232 (0,0)))) (λ_ d _=>33 - (RowKit.intOf d).toNat)
   case atStart=>exact⟨0,rfl,Zo,HS,nS,cB⟩
   case round=>
    clear nS HS;obtain⟨j,rfl,hj,HS,HR,cB⟩:=hrel;by_cases fi:j<33
    ·have d2:(j:Int)<33:=Zo;have v1:=Zf j Zo;have m0:wr.cell? ⟨mb,0,none⟩=some (Zu 0):=Zl cB.j;have m1:wr.cell? ⟨mb,1,none⟩=some (Zi c):=Zl cB.j;have m2:wr.cell? ⟨mb,2,none⟩=some (Zi 0):=Zl cB.j;have jw:Hid ((List.replicate (i+j) (uK c)).length+1<=10000000):=by show _<=_;simp;omega
     have xu:Hid (base<=wr.heap.size):=Nat.le_trans xx.j HR.j.on.size;clear fi;go_wp2_with (at_builtin;refine mg m3K _ rfl _ _ rfl base _ _ rfl HR.j.own (uK c) _ _ rfl rfl rfl jw.j xu.j (λx2 w4 h1 h2 h3=>?_);have bW:=aa (HR.j.push Zd h1 h2 h3 fQ.j.1 HS.j);have aw:Hid (mb<w4.heap.size):=Nat.lt_of_lt_of_le HS.j h2.size;have p9:Hid (w4.heap[mb]?=some (.cells #[Zu 0,Zi c,Zi 0] 232 (0,0))):=(h2.block mb (au cB.j) (λe=>by rcases HR.j.xw mb e with h9|h9;(have:=sR.j mb h9;have:=fQ.j;omega);omega)).trans cB.j;clear h1 h2 h3);go_roundw
     case rel=>exact⟨j+1,by go_num,Zo,aw,bW,p9⟩
     case measure=>exact Zm
    ·obtain rfl:j=33:=Zo;have eB:Hid (gI B wr bb o T cs V L):=HK.j.only HR.j.on (λk hb hs=>(kB.j k hs).1 hb) (λhs=>(kB.j bb hs).2 rfl);have h5:Zc wr bb (o+2) (V 2):=eB.j.cell (j:=2) Zd;rw[HV.j] at h5;have pA:Hid (ai mV wr 0 221 (.slice pv Ln cv) (L 2)):=by have:=(eB.j.k 2 Zd).own;rw[HV.j] at this;exact this
     obtain⟨px,cx,hx,_⟩:=HR.j.own.form;rw[List.length_replicate] at hx;subst hx;have mS:=aa eB.j.fz;have kC:=aa eB.j.bl
     have xj:Hid (∀k,(Value.slice pv Ln cv).ownBlock=some k->k≠bb):=λk iC e=>by
      have h8:=(eB.j.k 2 Zd).jB k (by rw[HV.j];exact iC);rw[e] at h8;exact eB.j.nb h8
     clear hj fi;go_wp2_with (at_builtin;refine Ex bk2 _ rfl _ _ rfl _ (L 2) rfl pA.j (pl,i,cl) (px,i+33,cx) _ _ rfl rfl rfl rfl jY.j (λv2 w4 h1 h2 h3=>?_);obtain⟨p2,c2,aP,_⟩:=h1.form;subst aP;have mv:=h2.block bb (au kC.j) (λhv=>xj.j bb hv rfl);have lS:=(World.cell?_of_block (a:=⟨bb,o+2,none⟩) mv).trans h5;have Hc:=(World.frozen?_of_block (a:=⟨bb,o+2,none⟩) mv).trans (mS.j (o+2));have H1:=aa h1;have H2:=aa h2;have H3:=aa h3;clear h1 h2 h3 mv)
     all_goals
      go_end0;refine⟨rfl,?_⟩;have rD:∀u:Value,(w4.setCell ⟨bb,o+2,none⟩ u).heap.size=w4.heap.size:=λu=>by simp[World.setCell]
      rw[rD];obtain⟨hb,ay⟩:=HK.j.push (j:=2) Zd (La:=mj) rfl Zd HR.j rfl rfl wP rfl nR.j kB.j fQ.j.1 H1.j (by rw[HV.j];exact H2.j) (by rw[HV.j];exact H3.j);have Az:(L 2++[(pl,i,cl),(px,i+33,cx)]).length=(L 2).length+2:=by simp
      refine⟨_,_,_,_,by simpa using hb,λi hi=>?_,by simpa using ay⟩;rw[Array.getElem?_setIfInBounds_ne Zo]
end
end Go.Proofs.YtphkconoooeidaaGreatDoor
namespace Go.Vx
abbrev dR:=(Nat->Prop)->World->Prop
def ik (P:dR):Prop:=∀(U V S:Nat->Prop) (w w2:World),P U w->ae S w w2->(∀k,k<w.heap.size->S k->U k)->(∀k,V k->U k\/(w.heap.size<=k/\k<w2.heap.size))->P V w2
def aD (Ps:List dR):dR:=λU w=>(∀k,U k->k<w.heap.size)/\∃C:Nat->Nat->Prop,(∀i P,Ps[i]?=some P->ik P/\P (λk=>k<w.heap.size/\¬C i k) w)/\(∀i j k,C i k->C j k->i=j)/\∀i k,C i k->k<w.heap.size/\¬U k
theorem aD.ul {Ps:List dR} {U:Nat->Prop} {w:World} (h:aD Ps U w):∀k,U k->k<w.heap.size:=h.1
theorem abc {w w2:World} {k:Nat} {P:Prop} (hk:k<w2.heap.size/\P):(k<w.heap.size/\P)\/(w.heap.size<=k/\k<w2.heap.size):=by
 by_cases h1:k<w.heap.size
 ·exact Or.inl ⟨h1,hk.2⟩
 ·exact Or.inr ⟨Zo,hk.1⟩
theorem aD.bj (Ps:List dR):ik (aD Ps):=by
 rintro U V S w w2 ⟨hu,C,hp,hd,hl⟩ ho hS hV;have hs:=ho.size;refine⟨λk hk=>?_,C,λi P hi=>⟨(hp i P hi).1,(hp i P hi).1 _ _ S w w2 (hp i P hi).2 ho (λk hk h1=>⟨hk,λh2=>(hl i k h2).2 (hS k hk h1)⟩) (λk hk=>abc hk)⟩,hd,λi k hk=>⟨by have:=(hl i k hk).1;omega,λh1=>?_⟩⟩
 ·rcases hV k hk with h1|h1
  ·have:=hu k h1;omega
  ·exact h1.2
 ·have h2:=hl i k hk;rcases hV k h1 with h3|h3
  ·exact h2.2 h3
  ·omega
theorem aD.quiet {Ps:List dR} {U:Nat->Prop} {w w2:World} (h:aD Ps U w) (ho:Zq w w2):aD Ps U w2:=aD.bj Ps U U _ w w2 h ho (λ_ _ h=>h.elim) (λ_ h=>Or.inl h)
theorem ik.j {P:dR} (hP:ik P) {U S:Nat->Prop} {w w2:World} (h:P U w) (ho:ae S w w2) (hS:∀k,k<w.heap.size->S k->U k):P U w2:=hP U U S w w2 h ho hS (λ_ h=>Or.inl h)
theorem aD.open {Ps:List dR} {U:Nat->Prop} {w:World} (h:aD Ps U w) (i:Nat) {P:dR} (hi:Ps[i]?=some P):
  ∃U2:Nat->Prop,P U2 w/\(∀k,U k->U2 k)/\(∀k,U2 k->k<w.heap.size)/\∀(P2:dR) (w2:World),ik P2->P2 U2 w2->Zn U2 w w2->aD (Ps.set i P2) U w2/\Zn U w w2:=by
 obtain⟨hu,C,hp,hd,hl⟩:=h;refine⟨_,(hp i P hi).2,λk hk=>⟨hu k hk,λh1=>(hl i k h1).2 hk⟩,λk hk=>hk.1,λP2 w2 D4 h2 ho=>⟨?_,ho.mono (λk hk h1 h2=>h1 ⟨hk,λh3=>(hl i k h3).2 h2⟩)⟩⟩;have hs:=ho.size;have bM:i<Ps.length:=(List.getElem?_eq_some_iff.1 hi).1;refine⟨λk hk=>by have:=hu k hk;omega,λj k=>C j k\/(j=i/\w.heap.size<=k/\k<w2.heap.size),λj Q hj=>?_,λj j2 k h3 h4=>?_,λj k hk=>?_⟩
 ·by_cases he:j=i
  ·subst he;rw[List.getElem?_set_self bM] at hj;injection hj with hj
   subst hj;refine⟨D4,D4 _ _ (λ_=>False) w2 w2 h2 (ae.refl _ _) (λ_ _ h=>h.elim) (λk hk=>Or.inl ?_)⟩;have h3:¬(w.heap.size<=k/\k<w2.heap.size):=λh4=>hk.2 (Or.inr ⟨rfl,h4⟩)
   exact⟨by have:=hk.1;omega,λh4=>hk.2 (Or.inl h4)⟩
  ·rw[List.getElem?_set_ne (λh=>he h.symm)] at hj;refine⟨(hp j Q hj).1,(hp j Q hj).1 _ _ _ w w2 (hp j Q hj).2 ho (λk hk h1=>⟨hk,λh5=>h1 ⟨hk,λh6=>he (hd j i k h5 h6)⟩⟩) (λk hk=>?_)⟩;by_cases h1:k<w.heap.size
   ·exact Or.inl ⟨h1,λh5=>hk.2 (Or.inl h5)⟩
   ·exact Or.inr ⟨Zo,hk.1⟩
 ·rcases h3 with h3|h3<;>rcases h4 with h4|h4
  ·exact hd j j2 k h3 h4
  ·have:=(hl j k h3).1;omega
  ·have:=(hl j2 k h4).1;omega
  ·rw[h3.1,h4.1]
 ·rcases hk with hk|hk
  ·have:=hl j k hk;exact⟨Zo,this.2⟩
  ·exact⟨hk.2.2,λh5=>by have:=hu k h5;omega⟩
theorem aD.at {Ps:List dR} {U:Nat->Prop} {w:World} (h:aD Ps U w) (i:Nat) {P:dR} (hi:Ps[i]?=some P):∃U2:Nat->Prop,P U2 w/\∀k,U k->U2 k:=by
 obtain⟨U2,a,b,_⟩:=h.open i hi;exact⟨U2,a,b⟩
theorem aD.nil {U:Nat->Prop} {w:World} (hu:∀k,U k->k<w.heap.size):aD [] U w:=⟨hu,λ_ _=>False,λi P hi=>by simp at hi,λ_ _ _ h=>h.elim,λ_ _ h=>h.elim⟩
theorem aD.more {Ps:List dR} {U:Nat->Prop} {w w2:World} (h:aD Ps U w) {P:dR} (hP:ik P) (h2:P (λk=>k<w.heap.size) w2) (ho:Zq w w2):aD (Ps++[P]) U w2:=by
 have hs:=ho.size;obtain⟨hu,C,hp,hd,hl⟩:=h;have hCl:∀k,¬C Ps.length k\/C Ps.length k:=λk=>(Classical.em _).symm
 refine⟨λk hk=>by have:=hu k hk;omega,λj k=>(j<Ps.length/\C j k)\/(j=Ps.length/\w.heap.size<=k/\k<w2.heap.size),λj Q hj=>?_,λj j2 k h3 h4=>?_,λj k hk=>?_⟩
 ·by_cases he:j<Ps.length
  ·rw[List.getElem?_append_left he] at hj;refine⟨(hp j Q hj).1,(hp j Q hj).1 _ _ _ w w2 (hp j Q hj).2 ho (λ_ _ h=>h.elim) (λk hk=>?_)⟩;by_cases h1:k<w.heap.size
   ·exact Or.inl ⟨h1,λh5=>hk.2 (Or.inl ⟨he,h5⟩)⟩
   ·exact Or.inr ⟨Zo,hk.1⟩
  ·have fi:j=Ps.length:=by
    have:=(List.getElem?_eq_some_iff.1 hj).1;rw[List.length_append,List.length_singleton] at this;omega
   subst fi;rw[List.getElem?_append_right (Nat.le_refl _),Nat.sub_self] at hj;simp only[List.getElem?_cons_zero,Option.some.injEq] at hj;subst hj;refine⟨hP,hP _ _ (λ_=>False) w2 w2 h2 (ae.refl _ _) (λ_ _ h=>h.elim) (λk hk=>Or.inl ?_)⟩;have h3:¬(w.heap.size<=k/\k<w2.heap.size):=λh4=>hk.2 (Or.inr ⟨rfl,h4⟩)
   have:=hk.1;omega
 ·rcases h3 with h3|h3<;>rcases h4 with h4|h4
  ·exact hd j j2 k h3.2 h4.2
  ·have:=(hl j k h3.2).1;omega
  ·have:=(hl j2 k h4.2).1;omega
  ·rw[h3.1,h4.1]
 ·rcases hk with hk|hk
  ·have:=hl j k hk.2;exact⟨Zo,this.2⟩
  ·exact⟨hk.2.2,λh5=>by have:=hu k h5;omega⟩
def kF (b:Nat) (o:Obj):dR:=λU w=>w.heap[b]?=some o/\¬U b/\∀k,U k->k<w.heap.size
theorem kF.bj (b:Nat) (o:Obj):ik (kF b o):=by
 rintro U V S w w2 ⟨h1,h2,h3⟩ ho hS hV;have hb:=au h1;have hs:=ho.size;refine⟨(ho.block b hb (λh=>h2 (hS b hb h))).trans h1,λh=>?_,λk hk=>?_⟩
 ·rcases hV b h with h4|h4
  ·exact h2 h4
  ·omega
 ·rcases hV k hk with h4|h4
  ·have:=h3 k h4;omega
  ·exact h4.2
def Nu (U:Nat->Prop) (a b:Nat):Nat->Prop:=λk=>U k\/(a<=k/\k<b)
theorem aD.wide {Ps:List dR} {U:Nat->Prop} {w w2:World} (h:aD Ps U w) (ho:Zq w w2):aD Ps (Nu U w.heap.size w2.heap.size) w2:=aD.bj Ps U _ _ w w2 h ho (λ_ _ h=>h.elim) (λ_ h=>h)
theorem aD.thin {Ps:List dR} {U V:Nat->Prop} {w:World} (h:aD Ps V w) (hU:∀k,U k->V k):aD Ps U w:=aD.bj Ps V U _ w w h (ae.refl (λ_=>False) w) (λ_ _ h=>h.elim) (λk hk=>Or.inl (hU k hk))
end Go.Vx
namespace Go.Proofs.YtphkconoooeidaaGreatDoor
section
def aU (o:Int×Int):Int:=if o.1=1 then ((2^(o.2/256).toNat:Nat):Int) else 1
def aQ (o:Int×Int):Int:=if o.1=1 then o.2 % 256 else o.2
def mi (a n b m:Int):Bool:=decide (a<b+m/\b<a+n)
def dD (x y:Int×Int):Bool:=mi (aQ x) (aU x) (aQ y) (aU y)
def fK (n:Int):Prop:=0<=n/\n<2304
theorem zM {o:Int×Int} (h:o.1=1->fK o.2):1<=aU o/\aU o<=256:=by
 unfold aU
 split
 ·rename_i h1;obtain⟨h2,h3⟩:=h h1;have h4:(o.2/256).toNat<=8:=Zo;have h5:2^(o.2/256).toNat<=2^8:=Nat.pow_le_pow_right Zd h4;have h6:0<2^(o.2/256).toNat:=Nat.pow_pos Zd;omega
 ·omega
theorem JE {o:Int×Int} (h:o.1=1):0<=aQ o/\aQ o<256:=by
 unfold aQ;rw[if_pos h];omega
theorem Cc (k n:Int) (h:k=1->fK n) (w:World):Zk 112 #[.agg #[Zi k,Zi n]] w λe w'=>Zr e (.tuple #[Zi (aQ (k,n)),Zi (aU (k,n))])/\Zq w w':=by
 have HO:Hid (∀o,Zq w (w.alloc o)):=λo=>(ae.refl _ w).alloc _
 by_cases hk:k=1
 ·subst hk;have hn:=h rfl;have HA:Hid (aQ (1,n)=n % 256):=if_pos rfl;have HN:Hid (aU (1,n)=((2^(n/256).toNat:Nat):Int)):=if_pos rfl;obtain⟨q,r,BR,hr,hq⟩:∃q r:Nat,n=256*q+r/\r<256/\q<=8:=⟨(n/256).toNat,(n % 256).toNat,by unfold fK at hn;omega,Zo,by unfold fK at hn;omega⟩
  have e1:n.tdiv 256=(q:Int):=by rw[Int.tdiv_eq_ediv_of_nonneg Zo];omega
  have e2:n.tmod 256=(r:Int):=by rw[Int.tmod_eq_emod_of_nonneg Zo];omega
  have e3:(n/256).toNat=q:=Zo;have e4:n % 256=(r:Int):=Zo;have w1:=Zh (q:Int) Zo;have w2:=Zh (r:Int) Zo;rw[e3] at HN;rw[e4] at HA;clear h hn BR e3 e4;go_enter func112,ntmps112;go_wp2_with fail
  go_loopw [4,5] (λv d wr=>∃j p:Nat,v=Zi (p:Int)/\d=Zi (j:Int)/\j<=q/\p<=256/\Hid (p=2^j)/\wr=w.alloc (.cells #[Zi 1,Zi n] 85)) (λ_ d _=>q - (RowKit.intOf d).toNat)
  case atStart=>exact⟨0,1,rfl,rfl,Zo,Zo,(show(1:Nat)=2^0 from Zd),rfl⟩
  case round=>
   obtain⟨j,p,rfl,rfl,hj,hp,Uk,rfl⟩:=hrel;by_cases ah:j<q
   ·have h1:(j:Int)<(q:Int):=Zo;have w3:=Zf j Zo;have w4:=Zh (2*(p:Int)) Zo
    have E1:Hid (2*p=2^(j+1)/\2*p<=256):=by
     have h2:2*p=2^(j+1):=by rw[Uk.j,Nat.pow_succ];omega
     have h3:2^(j+1)<=2^8:=Nat.pow_le_pow_right Zd Zo;exact⟨h2,Zo⟩
    clear ah;go_wp2_with fail;go_roundw
    case rel=>exact⟨j+1,2*p,by go_num,by go_num,Zo,E1.j.2,E1.j.1,trivial⟩
    case measure=>exact Zm
   ·obtain rfl:j=q:=Zo;have h1:¬(j:Int)<(j:Int):=Zo;rw[<-Uk.j] at HN;clear ah;go_wp2_with fail
    all_goals
     go_ret2;exact⟨by rw[HA.j,HN.j];rfl,HO.j _⟩
 ·have HA:Hid (aQ (k,n)=n):=if_neg hk;have HN:Hid (aU (k,n)=1):=if_neg hk;have h1:(k !=1)=true:=by simpa using hk
  have h2:(k==1)=false:=by simpa using hk
  clear h;go_enter func112,ntmps112;go_wp2_with fail
  all_goals
   go_ret2;exact⟨by rw[HA.j,HN.j];rfl,HO.j _⟩
theorem abr (a n b m:Int) (h1:IntKind.i64.wrap (b+m)=b+m) (h2:IntKind.i64.wrap (a+n)=a+n) (w:World):Zk 113 #[Zi a,Zi n,Zi b,Zi m] w λe w'=>Zr e (.bool (mi a n b m))/\w'=w:=by
 by_cases h3:a<b+m
 ·by_cases h4:b<a+n
  ·have HT:Hid (mi a n b m=true):=decide_eq_true ⟨h3,h4⟩;go_enter func113,ntmps113;go_wp2_with fail
   all_goals
    go_ret;exact⟨by rw[HT.j];rfl,rfl⟩
  ·have HT:Hid (mi a n b m=false):=decide_eq_false (λh=>h4 h.2);go_enter func113,ntmps113;go_wp2_with fail
   all_goals
    go_ret;exact⟨by rw[HT.j];rfl,rfl⟩
 ·have HT:Hid (mi a n b m=false):=decide_eq_false (λh=>h3 h.1);go_enter func113,ntmps113;go_wp2_with fail
  all_goals
   go_ret;exact⟨by rw[HT.j];rfl,rfl⟩
structure jN (U:Nat->Prop) (w:World) (pb:Nat) (P:Int) (vo vr:Value) (os rs:Lp):Prop where
 r:w.heap[pb]?=some (.cells #[Zi P,vo,vr] 182 (0,0))
 o:ai aJ w 0 85 vo os
 g:ai aJ w 0 210 vr rs
 ur:¬U pb
 uo:∀k,vo.ownBlock=some k->¬U k
 ug:∀k,vr.ownBlock=some k->¬U k
 low:∀k,U k->k<w.heap.size
 no:os.length<=1000000
 ng:rs.length<=1000000
variable {U S:Nat->Prop} {w w2:World} {pb:Nat} {P:Int} {vo vr:Value} {os rs:Lp}
theorem jN.c0 (h:jN U w pb P vo vr os rs):w.cell? ⟨pb,0,none⟩=some (Zi P):=Zl h.r
theorem jN.c1 (h:jN U w pb P vo vr os rs):w.cell? ⟨pb,1,none⟩=some vo:=Zl h.r
theorem jN.c2 (h:jN U w pb P vo vr os rs):w.cell? ⟨pb,2,none⟩=some vr:=Zl h.r
theorem jN.aside (h:jN U w pb P vo vr os rs) (ho:ae S w w2) (h1:¬S pb) (h2:∀k,vo.ownBlock=some k->¬S k) (h3:∀k,vr.ownBlock=some k->¬S k):jN U w2 pb P vo vr os rs:=
 ⟨by rw[ho.block pb (au h.r) h1];exact h.r,h.o.kept ho h2,h.g.kept ho h3,h.ur,h.uo,h.ug,λk hk=>Nat.lt_of_lt_of_le (h.low k hk) ho.size,h.no,h.ng⟩
theorem jN.only (h:jN U w pb P vo vr os rs) (ho:ae S w w2) (hS:∀k,S k->U k):jN U w2 pb P vo vr os rs:=h.aside ho (λs=>h.ur (hS _ s)) (λk hk s=>h.uo k hk (hS _ s)) (λk hk s=>h.ug k hk (hS _ s))
theorem jN.quiet (h:jN U w pb P vo vr os rs) (ho:Zq w w2):jN U w2 pb P vo vr os rs:=h.only ho (λ_ h=>h.elim)
theorem vN {base:Nat} {e:TypeId} {v:Value} {xs:Lp} (h:ai aJ w base e v xs):∃p c,v=.slice p xs.length c/\∀(k:Nat) (hk:k<xs.length),∃g,p=some ⟨g,0,none⟩/\w.cell? ⟨g,k*2,none⟩=some (Zi xs[k].1)/\w.cell? ⟨g,k*2+1,none⟩=some (Zi xs[k].2):=by
 obtain⟨p,c,rfl,_,_,hg⟩:=h.form;refine⟨p,c,rfl,λk hk=>?_⟩;obtain⟨g,rfl,_⟩:=hg Zo;have h0:=h.cell k 0 hk Zd;have h1:=h.cell k 1 hk Zd;exact⟨g,rfl,h0,h1⟩
def jP (rs:Lp) (n:Int):Option Nat:=dq (λb=>decide (b.1=n)) rs 0
theorem YQ (h:jN U w pb P vo vr os rs) (n:Int):Zk 145 #[Zp pb,Zi n] w λe w'=>Zr e (Zi (ti (jP rs n)))/\w'=w:=by
 obtain⟨p,c,rfl,hb⟩:=vN h.g;have c0:=h.c2;have HB:=aa hb;have hn:=h.ng;clear h hb;obtain⟨N,hN⟩:=Ze (rs.length);have HN:=aa hN;rw[<-hN] at c0 hn;clear hN;go_enter func145,ntmps145;go_wp2_with fail
 go_loopw [5] (λd wr=>∃k:Nat,d=Zi (k:Int)/\k<=N/\Hid (dq (λb=>decide (b.1=n)) (rs.drop k) k=jP rs n)/\wr=w) (λd _=>N - (RowKit.intOf d).toNat)
 case atStart=>exact⟨0,rfl,Zo,(show dq _ (rs.drop 0) 0=_ from by rw[List.drop_zero];rfl),rfl⟩
 case round=>
  obtain⟨k,rfl,hk,HQ,rfl⟩:=hrel;by_cases ah:k<N
  ·have bq:k<rs.length:=by have:=HN.j;omega
   have h1:(k:Int)<(N:Int):=Zo;have bf:0<=(k:Int)/\(k:Int)<(N:Int):=Zo;have iY:=Zf k Zo;obtain⟨g,rfl,b0,_⟩:=HB.j k bq;have hq:=HQ.j;rw[Aa rs k bq] at hq;by_cases he:rs[k].1=n
   ·rw[if_pos (decide_eq_true he)] at hq;have HE:=aa hq;rw[he] at b0;clear hq ah HQ he;go_wp2_with fail
    all_goals
     go_ret;exact⟨by rw[<-HE.j];rfl,rfl⟩
   ·rw[if_neg (by simpa using he)] at hq;have HE:=aa hq;have gm:(rs[k].1==n)=false:=by simpa using he
    generalize rs[k].1=m at b0 he gm;clear hq ah HQ;go_wp2_with fail;go_roundw
    case rel=>exact⟨k+1,by go_num,Zo,HE,trivial⟩
    case measure=>exact Zm
  ·obtain rfl:k=N:=Zo;have hq:=HQ.j;rw[HN.j,Ab] at hq;have HE:=aa hq;have h1:¬(k:Int)<(k:Int):=Zo;clear hq ah HQ;go_wp2_with fail
   all_goals
    go_ret;exact⟨by rw[<-HE.j];rfl,rfl⟩
end
section
variable {U S:Nat->Prop} {w w2:World} {pb:Nat} {P:Int} {vo vr:Value} {os rs:Lp}
structure Il (os rs:Lp):Prop where
 ok:∀o∈os,o.1≠1/\0<=o.2/\o.2<256
 rk:∀r∈rs,fK r.1
theorem Ih {α:Type} {f:α->Bool} (l:List α) (k:Nat) (hk:k<l.length):(l.drop k).any f=(f l[k] || (l.drop (k+1)).any f):=by
 rw[List.drop_eq_getElem_cons hk];rfl
theorem Ii {α:Type} {f:α->Bool} (l:List α):(l.drop l.length).any f=false:=by rw[List.drop_length];rfl
theorem xR {base n c:Nat} {e:TypeId} {p:Option Addr} {xs:Lp} (h:ai aJ w base e (.slice p n c) xs) (k:Nat) (hk:k<xs.length):∃g,p=some ⟨g,0,none⟩/\w.cell? ⟨g,k*2,none⟩=some (Zi xs[k].1)/\w.cell? ⟨g,k*2+1,none⟩=some (Zi xs[k].2):=by
 obtain⟨p',c',hv,hc⟩:=vN h;injection hv with h1 h2 h3
 subst h1;exact hc k hk
def acd (n:Int) (o:Int×Int):Bool:=dD (1,n) o
def acb (n:Int) (r:Int×Int):Bool:=dD (1,n) (1,r.1)&&decide (aU (1,r.1)<aU (1,n))
def Dg (os rs:Lp) (n:Int):Bool:=os.any (acd n) || rs.any (acb n)
theorem Gm (x y:Int×Int) (hx:x.1=1->fK x.2) (hy:y.1=1->fK y.2) (bx:0<=x.2/\x.2<1000000) (cP:0<=y.2/\y.2<1000000) (w:World):Zk 113 #[Zi (aQ x),Zi (aU x),Zi (aQ y),Zi (aU y)] w λe w'=>Zr e (.bool (dD x y))/\w'=w:=by
 have a1:=zM hx;have a2:=zM hy;have a3:0<=aQ x/\aQ x<1000000:=by unfold aQ;split<;>omega
 have a4:0<=aQ y/\aQ y<1000000:=by unfold aQ;split<;>omega
 exact abr _ _ _ _ (by rw[IntKind.wrap_i64];omega) (by rw[IntKind.wrap_i64];omega) w
end
section
variable {U S:Nat->Prop} {w w2:World} {pb:Nat} {P:Int} {vo vr:Value} {os rs:Lp}
def ahb (os rs:Lp) (n:Int):Bool×Int:=match jP rs n with|none=>(false,6)|some _=>(!Dg os rs n,0)
def gL (rs:Lp) (n:Int):Int×Int:=match jP rs n with|none=>(0,6)|some i=>((rs.getD i (0,0)).2,0)
def Ci (os:Lp) (g:Int):Option Nat:=dq (λo=>decide (o.2=g)) os 0
def atR (P:Int) (os:Lp) (g:Int):(Int×Int)×Int:=if g<0\/P<=g then ((0,0),1) else match Ci os g with|none=>((0,0),0)|some i=>(os.getD i (0,0),0)
theorem FX {n:Int} {i:Nat} (h:jP rs n=some i):∃hi:i<rs.length,rs[i].1=n:=by
 obtain⟨hi,h2⟩:=uP h;simp only[Nat.sub_zero] at hi h2;exact⟨hi,by simpa using h2⟩
theorem wU {xs:Lp} {k:Nat} (hk:k<xs.length) (d:Int×Int):xs.getD k d=xs[k]:=by simp[List.getD_eq_getElem?_getD,hk]
theorem C8 {w:World} {rc:Nat} {a0 a1:Value} (h:w.heap[rc]?=some (.cells #[a0,a1] 85 (0,0))):(w.cell? ⟨rc,0,none⟩=some a0/\w.cell? ⟨rc,1,none⟩=some a1)/\∀j,w.frozen? ⟨rc,j,none⟩=false:=
 ⟨⟨Zl h,Zl h⟩,λj=>by simp[World.frozen?,h]⟩
theorem abB (h:jN U w pb P vo vr os rs) (n:Int):Zk 83 #[Zp pb,Zi n] w λe w'=>Zr e (.tuple #[Zi (gL rs n).1,Zi (gL rs n).2])/\w'=w:=by
 have dp:=aa (YQ h n)
 cases hx:jP rs n with
 |none=>
  have HE:Hid (gL rs n=(0,6)):=by show gL rs n=_;unfold gL;rw[hx]
  rw[hx] at dp;have bW:Hid (Zk 145 #[Zp pb,Zi n] w λe w'=>Zr e (Zi (-1))/\w'=w):=dp;clear hx dp h;go_enter func83,ntmps83;go_wp2_with fail;refine bW.j.e1 ?_;go_wp2_with fail
  all_goals
   go_ret2
   exact⟨by rw[HE.j];rfl,rfl⟩
 |some i=>
  obtain⟨hi,gj⟩:=FX hx;clear gj;have HE:Hid (gL rs n=(rs[i].2,0)):=by show gL rs n=_;unfold gL;rw[hx];dsimp only;rw[wU hi]
  rw[hx] at dp;have bW:Hid (Zk 145 #[Zp pb,Zi n] w λe w'=>Zr e (Zi (i:Int))/\w'=w):=dp;have h4:¬(i:Int)<0:=Zo;have c2:=h.c2;obtain⟨p,c,rfl,hb⟩:=vN h.g;obtain⟨g,rfl,b0,b1⟩:=hb i hi;clear b0;obtain⟨N,hN⟩:=Ze (rs.length);have bf:0<=(i:Int)/\(i:Int)<(N:Int):=Zo;rw[<-hN] at c2;generalize rs[i].2=mk at b1 HE;clear hx dp h hb hi hN;go_enter func83,ntmps83;go_wp2_with fail;refine bW.j.e1 ?_;go_wp2_with fail
  all_goals
   go_ret2;exact⟨by rw[HE.j];rfl,rfl⟩
end
section
variable {U S:Nat->Prop} {w w2:World} {pb:Nat} {P:Int} {vo vr:Value} {os rs:Lp}
theorem BC:Kind prog aJ 126 85:=kG (z:=.agg #[Zi 0,Zi 0]) (b:=16) underlying126 Zx rfl Zd
theorem YL:Kind prog aJ 180 210:=kG (z:=.agg #[Zi 0,Zi 0]) (b:=16) underlying180 Zx rfl Zd
def lX (U:Nat->Prop) (w:World) (pb:Nat) (P:Int) (os rs:Lp):Prop:=∃vo vr,jN U w pb P vo vr os rs
theorem jN.XL {w3:World} {v':Value} {kP:Lp} (h:jN U w pb P vo vr os rs) (ho:ai aJ w3 0 85 v' kP) (ay:ae (λk=>vo.ownBlock=some k) w w3) (hl:∀k,v'.ownBlock=some k->vo.ownBlock=some k\/w.heap.size<=k) (hn:kP.length<=1000000):
  (∃x,w3.cell? ⟨pb,1,none⟩=some x)/\w3.frozen? ⟨pb,1,none⟩=false/\jN U (w3.setCell ⟨pb,1,none⟩ v') pb P v' vr kP rs/\Zn U w (w3.setCell ⟨pb,1,none⟩ v'):=by
 have n1:∀k,vo.ownBlock=some k->k≠pb:=λk hk=>by
  obtain⟨cur,hc⟩:=bu h.o hk;exact cE hc h.r Zd
 have n2:∀k j,vo.ownBlock=some k->vr.ownBlock=some j->k≠j:=λk j hk hj=>by
  obtain⟨cur,hc⟩:=bu h.o hk;obtain⟨lx,bH⟩:=bu h.g hj;exact cE hc bH Zd
 have n3:∀j,vr.ownBlock=some j->j≠pb:=λj hj=>by
  obtain⟨lx,bH⟩:=bu h.g hj;exact cE bH h.r Zd
 have gP:w3.heap[pb]?=some (.cells #[Zi P,vo,vr] 182 (0,0)):=by rw[ay.block pb (au h.r) (λe=>n1 pb e rfl)];exact h.r
 have tE:∀k,v'.ownBlock=some k->k≠pb:=λk hk=>by
  obtain⟨cur,hc⟩:=bu ho hk;exact cE hc gP Zd
 have hs:ae (λk=>k=pb) w3 (w3.setCell ⟨pb,1,none⟩ v'):=ae.setCell (S:=λk=>k=pb) (ae.refl _ w3) (Or.inl rfl) _;have rK:ai aJ w3 0 210 vr rs:=h.g.kept ay (λk hk e=>n2 k k e hk rfl);refine⟨⟨vo,Zl gP⟩,by simp[World.frozen?,gP],⟨?_,ho.kept hs tE,rK.kept hs (λk hk e=>n3 k hk e),h.ur,?_,h.ug,λk hk=>Nat.lt_of_lt_of_le (h.low k hk) (Nat.le_trans ay.size hs.size),hn,h.ng⟩,?_⟩
 ·rw[heap_setCell_same _ _ 1 _ _ v' gP];rfl
 ·intro k hk;rcases hl k hk with hl|hl
  ·exact h.uo k hl
  ·intro hu;have:=h.low k hu;omega
 ·refine(ay.mono (λk _ hk=>h.uo k hk)).trans ?_;exact hs.mono (λk _ hk=>by subst hk;exact h.ur)
theorem jN.XM {w3:World} {v':Value} {kP:Lp} (h:jN U w pb P vo vr os rs) (ho:ai aJ w3 0 210 v' kP) (ay:ae (λk=>vr.ownBlock=some k) w w3) (hl:∀k,v'.ownBlock=some k->vr.ownBlock=some k\/w.heap.size<=k) (hn:kP.length<=1000000):
  (∃x,w3.cell? ⟨pb,2,none⟩=some x)/\w3.frozen? ⟨pb,2,none⟩=false/\jN U (w3.setCell ⟨pb,2,none⟩ v') pb P vo v' os kP/\Zn U w (w3.setCell ⟨pb,2,none⟩ v'):=by
 have n1:∀k,vr.ownBlock=some k->k≠pb:=λk hk=>by
  obtain⟨cur,hc⟩:=bu h.g hk;exact cE hc h.r Zd
 have n2:∀k j,vr.ownBlock=some k->vo.ownBlock=some j->k≠j:=λk j hk hj=>by
  obtain⟨cur,hc⟩:=bu h.g hk;obtain⟨lx,bH⟩:=bu h.o hj;exact cE hc bH Zd
 have n3:∀j,vo.ownBlock=some j->j≠pb:=λj hj=>by
  obtain⟨lx,bH⟩:=bu h.o hj;exact cE bH h.r Zd
 have gP:w3.heap[pb]?=some (.cells #[Zi P,vo,vr] 182 (0,0)):=by rw[ay.block pb (au h.r) (λe=>n1 pb e rfl)];exact h.r
 have tE:∀k,v'.ownBlock=some k->k≠pb:=λk hk=>by
  obtain⟨cur,hc⟩:=bu ho hk;exact cE hc gP Zd
 have hs:ae (λk=>k=pb) w3 (w3.setCell ⟨pb,2,none⟩ v'):=ae.setCell (S:=λk=>k=pb) (ae.refl _ w3) (Or.inl rfl) _;have rK:ai aJ w3 0 85 vo os:=h.o.kept ay (λk hk e=>n2 k k e hk rfl);refine⟨⟨vr,Zl gP⟩,by simp[World.frozen?,gP],⟨?_,rK.kept hs (λk hk e=>n3 k hk e),ho.kept hs tE,h.ur,h.uo,?_,λk hk=>Nat.lt_of_lt_of_le (h.low k hk) (Nat.le_trans ay.size hs.size),h.no,hn⟩,?_⟩
 ·rw[heap_setCell_same _ _ 2 _ _ v' gP];rfl
 ·intro k hk;rcases hl k hk with hl|hl
  ·exact h.ug k hl
  ·intro hu;have:=h.low k hu;omega
 ·refine(ay.mono (λk _ hk=>h.ug k hk)).trans ?_;exact hs.mono (λk _ hk=>by subst hk;exact h.ur)
theorem abj (n:Int) (h:1<=n/\n<=256) (w:World):Zk 12 #[Zi n] w λe w'=>∃pb,Zr e (.tuple #[Zp pb,Zi 0])/\w.heap.size<=pb/\lX (λk=>k<w.heap.size) w' pb n [] []/\Zq w w':=by
 have h1:¬n<1:=Zo;have h2:¬256<n:=Zo
 have HR:Hid (lX (λk=>k<w.heap.size) (w.alloc (.cells #[Zi n,.slice none 0 0,.slice none 0 0] 182)) w.heap.size n [] []):=
  ⟨.slice none 0 0,.slice none 0 0,heap_alloc_last _ _,ai.nil _ _ _ _,ai.nil _ _ _ _,λh=>absurd h (Nat.lt_irrefl _),λk hk=>(by cases hk),λk hk=>(by cases hk),λk hk=>by simp;omega,by simp,by simp⟩
 have HO:Hid (∀o,Zq w (w.alloc o)):=λo=>(ae.refl _ w).alloc _
 clear h;go_enter func12,ntmps12;go_wp2_with fail
 all_goals
  go_ret2;exact⟨_,rfl,Nat.le_refl _,HR.j,HO.j _⟩
def aV (P:Int) (os rs:Lp) (o:Int×Int):Int:=
 if o.1<1\/8<o.1 then 12 else if o.2<0\/(o.1=1/\2304<=o.2) then 1 else if aQ o % aU o≠0\/P - aU o<aQ o then 1
 else if (os.any (dD o) || rs.any (λr=>dD o (1,r.1)))=true then 7 else 0
def fX (P:Int) (os rs:Lp) (o:Int×Int):Lp:=if aV P os rs o=0/\o.1≠1 then os++[o] else os
def ij (P:Int) (os rs:Lp) (o:Int×Int):Lp:=if aV P os rs o=0/\o.1=1 then rs++[(o.2,0)] else rs
theorem yX (o:Int×Int) (h:aV P os rs o≠0):fX P os rs o=os/\ij P os rs o=rs:=⟨if_neg (λe=>h e.1),if_neg (λe=>h e.1)⟩
end
end Go.Proofs.YtphkconoooeidaaGreatDoor

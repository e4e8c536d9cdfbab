import Derived.Test.YtphkconoooeidaaGreatDoorCp22
import Derived.LoopIn
import Derived.LoopNIn
import Derived.OwnWalkIn
import Derived.RangeFuncBound
import Derived.RangeFuncCalls
import Derived.RangeFuncLeaves
import Derived.RangeFuncNested
import Derived.RegionIn
import Derived.Shelf.RegionOpen
import Derived.TacticsInMore
set_option maxRecDepth 100000
set_option maxHeartbeats 8000000
set_option linter.unusedVariables false
set_option linter.unusedSimpArgs false
open Go Go.Vx Go.Proofs.Tryz Go.ChangeShapes Go.WideShapes Go.ChangeAt Go.RowKit
namespace Go.Proofs.YtphkconoooeidaaGreatDoor
section
variable {U V S:Nat->Prop} {w w2 w3:World} {ts:Lp}
theorem adp (a b:Int) (w:World):Zk 96 #[.agg #[Zi a,Zi b]] w λe w'=>Zr e (.bool (!gJ (a,b)))/\Zq w w':=by
 have HD:=aa (GA a);obtain⟨w1,ag,aB,sj⟩:∃w1,w1=w.alloc (.cells #[Zi a,Zi b] 120)/\Zq w w1/\w1.heap[w.heap.size]?=some (.cells #[Zi a,Zi b] 120 (0,0)):=⟨_,rfl,(ae.refl _ w).alloc _,heap_alloc_last w _⟩
 obtain⟨A,hA⟩:=Ze (w.heap.size);rw[<-hA] at sj;have z0:w1.cell? ⟨A,0,none⟩=some (Zi a):=Zl sj;have z1:w1.cell? ⟨A,1,none⟩=some (Zi b):=Zl sj;have HO:=aa aB
 have HT:Hid (gJ (a,b)=(nn a&&decide (1<=b/\b<=1000))):=by
  show decide (0<=a/\a<=7/\1<=b/\b<=1000)=(decide (0<=a/\a<=7)&&decide (1<=b/\b<=1000))
  rw[<-Bool.decide_and];congr 1;simp[and_assoc]
 rw[HT.j];clear aB sj HT
 cases hb:nn a with
 |false=>
  rw[hb] at HD;clear hb;go_enter func96,ntmps96;go_upto_region 1 with fail
  rw[<-ag,<-hA];clear ag hA;go_wp2_with fail;refine(HD.j _).e1 ?_;go_wp2_with fail
  all_goals
   go_ret
   exact⟨by first|rfl|simp_all,HO.j⟩
 |true=>
  rw[hb] at HD;clear hb;by_cases b1:b<1
  ·have HB:Hid (decide (1<=b/\b<=1000)=false):=decide_eq_false Zo;rw[HB.j];go_enter func96,ntmps96;go_upto_region 1 with fail
   rw[<-ag,<-hA];clear ag hA;go_wp2_with fail;refine(HD.j _).e1 ?_;go_wp2_with fail
   all_goals
    go_ret;exact⟨by first|rfl|simp_all,HO.j⟩
  ·by_cases b2:1000<b
   ·have HB:Hid (decide (1<=b/\b<=1000)=false):=decide_eq_false Zo;rw[HB.j];go_enter func96,ntmps96;go_upto_region 1 with fail
    rw[<-ag,<-hA];clear ag hA;go_wp2_with fail;refine(HD.j _).e1 ?_;go_wp2_with fail
    all_goals
     go_ret;exact⟨by first|rfl|simp_all,HO.j⟩
   ·have HB:Hid (decide (1<=b/\b<=1000)=true):=decide_eq_true Zo;rw[HB.j];go_enter func96,ntmps96;go_upto_region 1 with fail
    rw[<-ag,<-hA];clear ag hA;go_wp2_with fail;refine(HD.j _).e1 ?_;go_wp2_with fail
    all_goals
     go_ret;exact⟨by first|rfl|simp_all,HO.j⟩
theorem NZ {pa:Option Addr} (hp:pj w pa ts) (hn:0<ts.length):∃ab ao,pa=some ⟨ab,ao,none⟩/\∀wv,Zq w wv->∀j (h:j<ts.length),wv.cell? ⟨ab,ao+j*2,none⟩=some (Zi ts[j].1)/\wv.cell? ⟨ab,ao+j*2+1,none⟩=some (Zi ts[j].2):=by
 rcases hp with h|⟨ab,ao,rfl,h⟩
 ·rw[h] at hn;cases hn
 ·refine⟨ab,ao,rfl,λwv ho j hj=>?_⟩;have lh:pj wv (some ⟨ab,ao,none⟩) ts:=pj.quiet (Or.inr ⟨ab,ao,rfl,h⟩) ho;rcases lh with h9|⟨a2,o2,e,h9⟩
  ·rw[h9] at hj;cases hj
  ·injection e with e
   injection e with e1 e2
   subst e1;subst e2;exact h9 j hj
def tQ (ts:Lp):Bool:= !ts.all gJ
theorem WI {pa:Option Addr} (hp:pj w pa ts) (m c:Nat) (hm:m=ts.length) (Eh:m<=16):Zk 154 #[.slice pa m c,.func (.func 96) #[] #[]] w λe w'=>∃r:Int,Zr e (Zi r)/\(0<=r↔tQ ts=true)/\Zq w w':=by
 have HX:=aa hp;have HM:=aa hm;clear hp hm;go_enter func154,ntmps154;go_wp2_with fail
 go_loopw [5,8] (λ_ d wr=>∃k:Nat,d=Zi (k:Int)/\k<=m/\Hid (∀j (h:j<ts.length),j<k->gJ ts[j]=true)/\Hid (Zq w wr)) (λ_ d _=>m - (RowKit.intOf d).toNat)
 case atStart=>exact⟨0,rfl,Zo,λj _ hj=>absurd hj (Nat.not_lt_zero _),ae.refl _ _⟩
 case round=>
  obtain⟨k,rfl,hk,HQ,HW⟩:=hrel;by_cases ah:k<m
  ·have h1:(k:Int)<(m:Int):=Zo;have bf:0<=(k:Int)/\(k:Int)<(m:Int):=Zo;have iY:=Zf k Zo;have dE:k<ts.length:=by have:=HM.j;omega
   obtain⟨ab,ao,rfl,hC⟩:=NZ HX.j Zo;obtain⟨c0,c1⟩:=hC _ HW.j k dE;have HF:=aa (λwv=>adp ts[k].1 ts[k].2 wv);clear hC
   cases hb:gJ ts[k] with
   |true=>
    have dL:Hid (∀j (h:j<ts.length),j<k+1->gJ ts[j]=true):=λj hj K8=>by
     by_cases e:j=k
     ·subst e;exact hb
     ·exact HQ.j j hj Zo
    have e9:(!gJ (ts[k].1,ts[k].2))=false:=by rw[show(ts[k].1,ts[k].2)=ts[k] from rfl,hb];rfl
    rw[e9] at HF;generalize ts[k].1=d0 at c0 HF;generalize ts[k].2=d1 at c1 HF;clear hb e9 dE HQ;go_wp2_with fail;refine(HF.j _).m ?_;rintro e w3 ⟨rfl,h3⟩;have H3:=aa (HW.j.trans h3);clear h3 c0 c1;go_wp2_with fail;go_roundw
    case rel=>exact⟨k+1,by go_num,Zo,dL,H3⟩
    case measure=>exact Zm
   |false=>
    have HA:Hid (tQ ts=true):=by
     show(!ts.all gJ)=true;rw[Bool.not_eq_true',List.all_eq_false];exact⟨ts[k],List.getElem_mem dE,by rw[hb];decide⟩
    have e9:(!gJ (ts[k].1,ts[k].2))=true:=by rw[show(ts[k].1,ts[k].2)=ts[k] from rfl,hb];rfl
    rw[e9] at HF;generalize ts[k].1=d0 at c0 HF;generalize ts[k].2=d1 at c1 HF;clear hb e9 dE HQ;go_wp2_with fail;refine(HF.j _).m ?_;rintro e w3 ⟨rfl,h3⟩;have H3:=aa (HW.j.trans h3);clear h3 c0 c1;go_wp2_with fail;go_ret;exact⟨(k:Int),rfl,⟨λ_=>HA.j,λ_=>Zo⟩,H3.j⟩
  ·obtain rfl:k=m:=Zo;have h1:¬(k:Int)<(k:Int):=Zo;go_wp2_with fail;go_ret;refine⟨-1,rfl,⟨λh=>Zo,λh=>?_⟩,HW.j⟩;exfalso;unfold tQ at h;rw[Bool.not_eq_true',List.all_eq_false] at h;obtain⟨x,hx,hn⟩:=h;obtain⟨j,hj,rfl⟩:=List.getElem_of_mem hx;exact hn (HQ.j j hj (by have:=HM.j;omega))
theorem N8 {pa:Option Addr} (hp:pj w pa ts) (m c:Nat) (hm:m=ts.length) (Eh:m<=16):Zk 95 #[.slice pa m c,.func (.func 96) #[] #[]] w λe w'=>Zr e (.bool (tQ ts))/\Zq w w':=by
 have HI:=aa (WI hp m c hm Eh);clear hp hm Eh;go_enter func95,ntmps95;go_wp2_with fail;refine HI.j.m ?_;rintro e w2 ⟨r,rfl,h1,h2⟩;have H1:=aa h1;have H2:=aa h2;clear h1 h2;by_cases hr:0<=r
 ·have HA:Hid (tQ ts=true):=H1.j.1 hr;go_wp2_with fail;go_ret;exact⟨by rw[HA.j];first|rfl|simp[hr],H2.j⟩
 ·have HA:Hid (tQ ts=false):=by
   show _=_
   cases hb:tQ ts with
   |false=>rfl
   |true=>exact absurd (H1.j.2 hb) hr
  go_wp2_with fail;go_ret;exact⟨by rw[HA.j];first|rfl|simp[hr],H2.j⟩
theorem Wy {ab ao:Nat} (hc:∀j (h:j<ts.length),w.cell? ⟨ab,ao+j*2,none⟩=some (Zi ts[j].1)/\w.cell? ⟨ab,ao+j*2+1,none⟩=some (Zi ts[j].2)):0<ts.length->∃ad,(some ⟨ab,ao,none⟩:Option Addr)=some ad/\∀j u,(fl aJ ts)[j]?=some u->w.cell? (ad.add j)=some u:=λ_=>⟨_,rfl,λj u hj=>by
 have ah:j<(fl aJ ts).length:=by
  apply Classical.byContradiction;intro hx;rw[List.getElem?_eq_none Zo] at hj;cases hj
 have kH:(fl aJ ts).length=ts.length*2:=j8 aJ ts;have yE:j/2<ts.length:=Zo;have hg:=vh aJ ts (j/2) (j % 2) yE (Nat.mod_lt _ Zd);have e:j/2*aJ.sz+j % 2=j:=by show j/2*2+j % 2=j;omega
 rw[e,hj] at hg;obtain⟨y0,y1⟩:=hc (j/2) yE;rw[pY];rcases(by omega:j % 2=0\/j % 2=1) with hm|hm
 ·rw[hm] at hg;have e2:ao+j=ao+j/2*2:=Zo;rw[e2,y0];exact hg.symm
 ·rw[hm] at hg;have e2:ao+j=ao+j/2*2+1:=Zo;rw[e2,y1]
  exact hg.symm⟩
theorem aeL (w:World) (a:Option Addr) (n c:Nat):(binOp .eql 22 (.slice a n c) (.slice none 0 0)).run prog w=.ok (.bool a.isNone) w:=Lib.run_eql_slice_nil w _ _ a n c 0 0 underlying22
theorem WT {ab ao m c:Nat} (hc:∀wv,Zq w wv->∀j (h:j<ts.length),wv.cell? ⟨ab,ao+j*2,none⟩=some (Zi ts[j].1)/\wv.cell? ⟨ab,ao+j*2+1,none⟩=some (Zi ts[j].2)) (hm:m=ts.length) (Eh:m<=16):Zk 97 #[.slice (some ⟨ab,ao,none⟩) m c] w λe w'=>∃v,Zr e v/\ai aJ w' w.heap.size 120 v ts/\Zq w w':=by
 obtain⟨w1,ag,aB,sj⟩:∃w1,w1=w.alloc (.cells #[] 120)/\Zq w w1/\w1.heap[w.heap.size]?=some (.cells #[] 120 (0,0)):=⟨_,rfl,(ae.refl _ w).alloc _,heap_alloc_last w _⟩
 obtain⟨A,hA⟩:=Ze (w.heap.size);rw[<-hA] at sj;have HW:Hid (ai aJ w1 w.heap.size 120 (Zs A 0 0) []):=⟨rfl,Or.inr ⟨A,0,#[],rfl,Zo,sj,Nat.le_refl _,Nat.zero_le _,rfl,rfl⟩⟩
 have HS:=aa (Wy (w:=w1) (ab:=ab) (ao:=ao) (ts:=ts) (λj hj=>hc w1 aB j hj));have M1:Hid (([]:Lp).length+ts.length<=10000000):=by show _<=_;simp;omega
 have HM:=aa hm;have bX:=aa aB;have Bl:=aa hA;have kC:Hid (w.heap.size<=w1.heap.size):=aB.size;have hq:=aeL;clear hc hm aB sj Eh;go_enter func97,ntmps97;go_wp2_with (at_builtin;rw[<-ag,<-hA];refine CH N0 _ rfl _ _ rfl _ (Zs A 0 0) [] rfl HW.j (some ⟨ab,ao,none⟩) c m ts rfl HM.j HS.j M1.j kC.j ?_;intro v' w7 bc aP bB;rw[List.nil_append] at bc;obtain⟨pz,cz,ka,_⟩:=bc.form;generalize ts.length=mz at ka;subst ka;have HF:=aa bc;have HG:=aa aP;clear bc aP bB)
 all_goals
  go_ret;refine⟨_,rfl,HF.j,bX.j.beyond HG.j (λk hk=>?_)⟩;have:A=k:=by simpa[Value.ownBlock] using hk
  have:=Bl.j;omega
end
section
variable {U V S:Nat->Prop} {w w2 w3:World} {ts:Lp}
def A7 (w:World) (ts:Lp) (e:Ending) (w':World):Prop:=((eP ts=1/\Zr e (.tuple #[.pointer none,.int .i64 1]))\/(eP ts=0/\∃xb,Zr e (.tuple #[Zp xb,.int .i64 0])/\w.heap.size<=xb/\rN (λk=>k<w.heap.size) w' xb ts 0 (ts.getD 0 (0,0)).2 [] 0))/\Zq w w'
def sh:List Value:=List.replicate 64 (.slice none 0 0)
theorem NG {xb mb:Nat} {vt:Value} {W:World} (h:eP ts=0) (ho:Zq w W) (hx:W.heap[xb]?=some (.cells (vF vt 0 (ts.getD 0 (0,0)).2 mb sh) 246 (0,0))) (hv:ai aJ W w.heap.size 120 vt ts) (hm:W.ownsMap prog 3 RP mb 0 (.map [])) (fa:w.heap.size<=mb) (bQ:w.heap.size<=xb):
  A7 w ts (.returned (.tuple #[Zp xb,.int .i64 0])) W:=by
 have hn:1<=ts.length/\ts.length<=16/\ts.all gJ=true:=by
  unfold eP at h;by_cases hc:ts.length<1\/16<ts.length\/ts.all gJ=false
  ·rw[if_pos hc] at h;cases h
  ·refine⟨Zo,Zo,?_⟩
   cases hb:ts.all gJ with
   |true=>rfl
   |false=>exact absurd (Or.inr (Or.inr hb)) hc
 have tC:∀x∈ts,gJ x=true:=List.all_eq_true.1 hn.2.2;have h0:0<ts.length:=Zo;have gQ:ts.getD 0 (0,0)∈ts:=by simp[List.getD_eq_getElem?_getD,h0]
 have gY:=of_decide_eq_true (tC _ gQ)
 have Ky:∀j,qv sh j=.slice none 0 0:=λj=>by
  unfold qv sh;rw[List.getD_eq_getElem?_getD,List.getElem?_replicate]
  split<;>rfl
 refine⟨Or.inr ⟨h,xb,rfl,bQ,λ_=>0,ku.nil,⟨hn.1,hn.2.1,tC,h0,Zo,Zo⟩,mb,.map [],vt,sh,λ_=>[],λj _=>NQ.nil _ _,?_⟩,ho⟩;refine⟨hx,List.length_replicate,aah hv,hm,λk _=>rfl,(λk i z hk=>by cases hk),(λe he=>by cases he),(λe he=>by cases he),λj hj=>?_,λi j k _ _ h1 _=>?_,?_,λk hk=>?_,?_,(λe he=>by cases he),λj k _ h1=>?_,λk hk=>Nat.lt_of_lt_of_le hk ho.size,Nat.zero_le _,(λe he=>by cases he)⟩
 ·rw[Ky];exact ai.nil _ _ _ _
 ·rw[Ky] at h1;cases h1
 ·omega
 ·have:=(cH hv hk).1;omega
 ·omega
 ·rw[Ky] at h1;cases h1
theorem VD (w:World) (pa:Option Addr) (len cap:Nat) (hlen:len=ts.length) (pR:(len:Int)<=9223372036854775807) (hp:pj w pa ts) (h:eP ts=1):Zk 38 #[.slice pa len cap] w (A7 w ts):=by
 have fA:Hid (∀w',Zq w w'->A7 w ts (.returned (.tuple #[.pointer none,.int .i64 1])) w'):=λw' ho=>⟨Or.inl ⟨h,rfl⟩,ho⟩
 by_cases n1:len<1
 ·have Gh:(len:Int)<1:=Zo;clear hp h hlen;go_enter func38,ntmps38;go_wp2_with fail
  all_goals
   go_ret2;exact fA.j _ (ae.refl _ _)
 ·have Gh:¬(len:Int)<1:=Zo;by_cases n2:16<len
  ·have Gg:(16:Int)<(len:Int):=Zo;clear hp h hlen;go_enter func38,ntmps38;go_wp2_with fail
   all_goals
    go_ret2;exact fA.j _ (ae.refl _ _)
  ·have Gg:¬(16:Int)<(len:Int):=Zo
   have AM:tQ ts=true:=by
    unfold eP at h;by_cases hc:ts.length<1\/16<ts.length\/ts.all gJ=false
    ·rcases hc with hc|hc|hc
     ·omega
     ·omega
     ·unfold tQ;rw[hc];rfl
    ·rw[if_neg hc] at h;cases h
   have HC:=aa (N8 hp len cap hlen Zo);rw[AM] at HC;clear hp h hlen AM;go_enter func38,ntmps38;go_wp2_with fail;refine HC.j.m ?_;rintro e w' ⟨rfl,ho⟩;have HO:=aa ho;clear ho;go_wp2_with fail
   all_goals
    go_ret2;exact fA.j _ HO.j
end
section
variable {U V S:Nat->Prop} {w w2 w3:World} {ts:Lp}
theorem Tv {w:World} {b o:Nat} {u:Value} (h:w.cell? ⟨b,o,none⟩=some u):b<w.heap.size:=by
 apply Classical.byContradiction;intro hx
 have:w.cell? ⟨b,o,none⟩=none:=by
  have h9:w.heap[b]?=none:=Array.getElem?_eq_none Zo;simp[World.cell?,h9]
 rw[this] at h;cases h
theorem Vo (w:World):(zeroValue 246).run prog w=.ok (.agg (.slice none 0 0::.int .i64 0::.int .i64 0::.map none::sh).toArray) w:=Zx
theorem abe {tk:Int} (h:eP ts=0) (gY:(ts.getD 0 (0,0)).2=tk) {wv w3:World} {v:Value} (ho:Zq w wv) (hv:ai aJ w3 wv.heap.size 120 v ts) (aN:Zq wv w3):
  A7 w ts (.returned (.tuple #[.pointer (some ⟨w3.heap.size+1,0,none⟩),.int .i64 0])) ((w3.alloc (.map #[] 0)).alloc (.cells (v::.int .i64 0::.int .i64 tk::.map (some w3.heap.size)::sh).toArray 246)):=by
 have s1:=ho.size;have s2:=aN.size;have ia:(w3.alloc (.map #[] 0)).ownsMap prog 3 RP w3.heap.size 0 (.map []):=World.ownsMap_made w3 prog 3 RP;have e1:(w3.alloc (.map #[] 0)).heap.size=w3.heap.size+1:=by simp
 have o1:Zq w3 (w3.alloc (.map #[] 0)):=(ae.refl _ w3).alloc _;obtain⟨W,hW⟩:=Ze ((w3.alloc (.map #[] 0)).alloc (.cells (v::.int .i64 0::.int .i64 tk::.map (some w3.heap.size)::sh).toArray 246));have o2:Zq (w3.alloc (.map #[] 0)) W:=by rw[hW];exact(ae.refl _ _).alloc _
 have hx:W.heap[w3.heap.size+1]?=some (.cells (v::.int .i64 0::.int .i64 tk::.map (some w3.heap.size)::sh).toArray 246 (0,0)):=by rw[hW,<-e1];exact heap_alloc_last _ _
 rw[<-hW];subst gY;refine NG h (((ho.trans aN).trans o1).trans o2) hx ?_ (zU ia o2 (λh=>h)) Zo Zo;have h5:=ai.kept hv (o1.trans o2) (λ_ _ h=>h);refine⟨h5.1,?_⟩;rcases h5.2 with h6|⟨g,c,cur,e,hb,r⟩
 ·exact Or.inl h6
 ·exact Or.inr ⟨g,c,cur,e,Zo,r⟩
theorem abd {tk:Int} (h:eP ts=0) (gY:(ts.getD 0 (0,0)).2=tk) {wv w3:World} {v:Value} (ho:Zq w wv) (hv:ai aJ w3 (wv.alloc (.map #[] 0)).heap.size 120 v ts) (aN:Zq (wv.alloc (.map #[] 0)) w3):
  A7 w ts (.returned (.tuple #[Zp w3.heap.size,.int .i64 0])) (w3.alloc (.cells (v::.int .i64 0::.int .i64 tk::.map (some wv.heap.size)::sh).toArray 246)):=by
 have s1:=ho.size;have s2:=aN.size;have ia:(wv.alloc (.map #[] 0)).ownsMap prog 3 RP wv.heap.size 0 (.map []):=World.ownsMap_made wv prog 3 RP;have e1:(wv.alloc (.map #[] 0)).heap.size=wv.heap.size+1:=by simp
 have o1:Zq wv (wv.alloc (.map #[] 0)):=(ae.refl _ wv).alloc _;obtain⟨W,hW⟩:=Ze (w3.alloc (.cells (v::.int .i64 0::.int .i64 tk::.map (some wv.heap.size)::sh).toArray 246));have o2:Zq w3 W:=by rw[hW];exact(ae.refl _ _).alloc _
 have hx:W.heap[w3.heap.size]?=some (.cells (v::.int .i64 0::.int .i64 tk::.map (some wv.heap.size)::sh).toArray 246 (0,0)):=by rw[hW];exact heap_alloc_last _ _
 rw[<-hW];subst gY;refine NG h (((ho.trans o1).trans aN).trans o2) hx ?_ (zU (zU ia aN (λh=>h)) o2 (λh=>h)) Zo Zo;have h5:=ai.kept hv o2 (λ_ _ h=>h);refine⟨h5.1,?_⟩;rcases h5.2 with h6|⟨g,c,cur,e,hb,r⟩
 ·exact Or.inl h6
 ·exact Or.inr ⟨g,c,cur,e,Zo,r⟩
theorem VC (w:World) (pa:Option Addr) (len cap:Nat) (hlen:len=ts.length) (hp:pj w pa ts) (h:eP ts=0):Zk 38 #[.slice pa len cap] w (A7 w ts):=by
 have hn:1<=ts.length/\ts.length<=16/\tQ ts=false:=by
  unfold eP at h;by_cases hc:ts.length<1\/16<ts.length\/ts.all gJ=false
  ·rw[if_pos hc] at h;cases h
  ·refine⟨Zo,Zo,?_⟩;unfold tQ
   cases hb:ts.all gJ with
   |true=>rfl
   |false=>exact absurd (Or.inr (Or.inr hb)) hc
 have Gh:¬(len:Int)<1:=Zo;have Gg:¬(16:Int)<(len:Int):=Zo;have HC:=aa (N8 hp len cap hlen Zo);rw[hn.2.2] at HC;obtain⟨ab,ao,rfl,fM⟩:=NZ hp Zo;have cC:Hid (∀wv,Zq w wv->Zk 97 #[.slice (some ⟨ab,ao,none⟩) len cap] wv λe w'=>∃v,Zr e v/\ai aJ w' wv.heap.size 120 v ts/\Zq wv w'):=λwv ho=>WT (λwx hx=>fM wx (ho.trans hx)) hlen Zo
 have fY:Hid (∀wv,Zq w wv->wv.cell? ⟨ab,ao+1,none⟩=some (.int .i64 (ts.getD 0 (0,0)).2)):=λwv ho=>by
  have h0:0<ts.length:=Zo;have:=(fM wv ho 0 h0).2;have e:ts.getD 0 (0,0)=ts[0]:=by simp[List.getD_eq_getElem?_getD,h0]
  rw[e];simpa using this
 have oV:= @run_makeMap prog;have hzz:=Vo;have ae2:sh.length=64:=rfl;have bf:0<=(0:Int)/\(0:Int)<(len:Int):=Zo;have gj:(0:Int)<(len:Int):=Zo;obtain⟨tk,gY⟩:∃tk,(ts.getD 0 (0,0)).2=tk:=⟨_,rfl⟩
 rw[gY] at fY;have CB:=aa (λ(wv w3:World) (v:Value)=>abe (w:=w) (wv:=wv) (w3:=w3) (v:=v) h gY);have HFB:=aa (λ(wv w3:World) (v:Value)=>abd (w:=w) (wv:=wv) (w3:=w3) (v:=v) h gY);clear fM hp h hn hlen gY;go_enter func38,ntmps38;go_wp2_with fail;refine HC.j.m ?_;rintro e w' ⟨rfl,ho⟩;have HO:=aa ho;have b1:=fY.j _ ho;have ch:ab<w'.heap.size:=Tv b1;clear ho;go_wp2_with fail
 go_region_with (go_at_call 97;refine(cC.j _ (by first|exact HO.j.drew|exact(HO.j.drew).alloc _)).m ?_;rintro e w3 ⟨v,rfl,hv,aN⟩;have b3:=fY.j _ (ae.trans (by first|exact HO.j.drew|exact(HO.j.drew).alloc _) aN);have ah5:=Tv b3;have HV:=aa hv;have bD:=aa aN;obtain⟨pz,cz,ka,_⟩:=hv.form;generalize ts.length=mz at ka;subst ka;clear hv aN)
 all_goals
  clear oV hzz ae2;go_wp2_with fail;go_ret2
  first
  |exact CB.j (World.drew _) _ _ HO.j.drew HV.j bD.j
  |exact HFB.j (World.drew _) _ _ HO.j.drew HV.j bD.j
theorem Vf (w:World) (pa:Option Addr) (len cap:Nat) (hlen:len=ts.length) (uZ:len<=cap) (jo:cap<=maxLen) (hp:pj w pa ts):Zk 38 #[.slice pa len cap] w (A7 w ts):=by
 have pR:(len:Int)<=9223372036854775807:=by simp[maxLen] at jo;omega
 by_cases hc:eP ts=0
 ·exact VC w pa len cap hlen hp hc
 ·refine VD w pa len cap hlen pR hp ?_;unfold eP at hc|-;by_cases h9:ts.length<1\/16<ts.length\/ts.all gJ=false
  ·rw[if_pos h9]
  ·rw[if_neg h9] at hc;exact absurd rfl hc
end
section
open Go.Shelf
attribute [local go_sem] Oper.semAt_some
theorem inK:Kind prog cO 196 3:=kG (z:=Zi 0) (b:=8) underlying196 Zx rfl Zd
theorem JM {W W2:World} {row:Option Nat} (hg:W.grownBy W2 row):ae (λk=>row=some k) W W2:=⟨hg.os,hg.tape,hg.output,hg.size,λk hk hn=>hg.block k hk (λe=>hn e.symm)⟩
theorem Tu {α:Type} {L:Lay α} {W:World} {base k:Nat} {e:TypeId} {v:Value} {xs:List α} (h:ai L W base e v xs) (hk:v.ownBlock=some k) {o:Obj} (ho:W.heap[k]?=some o):o.isCells=true:=by
 obtain⟨cur,hc⟩:=bu h hk;rw[hc] at ho;injection ho with ho
 subst ho;rfl
structure qP (w4:World) (lb:Nat) (ns:List Int) (W:World):Prop where
 on:ae (λk=>k=lb) w4 W
 bx:∃v,W.heap[lb]?=some (.cells #[v] 196 (0,0))/\ai cO W w4.heap.size 3 v ns
theorem qP.grow {w4 W W2:World} {lb:Nat} {ns:List Int} {row:Option Nat} (h:qP w4 lb ns W) (hg:W.grownBy W2 row) (hr:∀r,row=some r->w4.heap.size<=r/\∃o:Obj,W.heap[r]?=some o/\o.isCells=false):qP w4 lb ns W2:=by
 have ho:=JM hg;obtain⟨v,hb,hv⟩:=h.bx;refine⟨⟨ho.os.trans h.on.os,ho.tape.trans h.on.tape,ho.output.trans h.on.output,Nat.le_trans h.on.size ho.size,λk hk hn=>(ho.block k (Nat.lt_of_lt_of_le hk h.on.size) (λe=>by have:=(hr k e).1;omega)).trans (h.on.block k hk hn)⟩,v,ae.keep ho hb (λe=>?_),hv.kept ho (λk hk e=>?_)⟩
 ·obtain⟨_,o,aB,aC⟩:=hr lb e;rw[hb] at aB;injection aB with aB
  subst aB;cases aC
 ·obtain⟨_,o,aB,aC⟩:=hr k e;rw[Tu hv hk aB] at aC;cases aC
theorem qP.push {w4 W:World} {lb:Nat} {ns:List Int} (h:qP w4 lb ns W) (hn:ns.length<=1000000) (x:Int):∃q m c v' W1,W.cell? ⟨lb,0,none⟩=some (.slice q m c)/\lb<W.heap.size/\(∀ty,(Builtin.append_ #[196,196] ty #[.slice q m c,Zs W.heap.size 1 1]).run prog (W.drew.alloc (.cells #[Zi x] 3))=.ok v' W1)/\(∃y,W1.cell? ⟨lb,0,none⟩=some y)/\W1.frozen? ⟨lb,0,none⟩=false/\(∃q m c,v'=.slice q m c)/\qP w4 lb (ns++[x]) (W1.setCell ⟨lb,0,none⟩ v')/\(∀b c t,W.heap[b]?=some (.cells c t (0,0))->b≠lb->t≠3->(W1.setCell ⟨lb,0,none⟩ v').heap[b]?=W.heap[b]?)/\KeepsFrom w4.heap.size W (W1.setCell ⟨lb,0,none⟩ v'):=by
 obtain⟨v,hb,hv⟩:=h.bx;obtain⟨q,c,rfl,_⟩:=hv.form;have ha:Zq W (W.drew.alloc (.cells #[Zi x] 3)):=((ae.refl _ W).drew).alloc _;have jC:=hv.kept ha (λ_ _ h=>h);have BY:(W.drew.alloc (.cells #[Zi x] 3)).heap[W.heap.size]?=some (.cells #[Zi x] 3 (0,0)):=heap_alloc_last W.drew _
 have Am:=λty=>Jk inK (W.drew.alloc (.cells #[Zi x] 3)) ty w4.heap.size _ ns jC (some ⟨W.heap.size,0,none⟩) 1 [x] (λ_=>⟨_,rfl,λj u hj=>by
  have e1:fl cO [x]=[Zi x]:=rfl;rw[e1] at hj;rw[pY,Nat.zero_add,cell_of_row _ _ j _ _ (0,0) BY]
  simpa using hj⟩) (by simp;omega) (Nat.le_trans h.on.size ha.size)
 obtain⟨v',W1,hr0,h2,h3,h4⟩:=Am 0;have aM:∀ty,(Builtin.append_ #[196,196] ty #[.slice q ns.length c,Zs W.heap.size 1 1]).run prog (W.drew.alloc (.cells #[Zi x] 3))=.ok v' W1:=λty=>hr0
 have Hg:∀k,(Value.slice q ns.length c).ownBlock=some k->k≠lb:=λk hk e=>by
  obtain⟨cur,hc⟩:=bu hv hk;exact cE hc hb Zd e
 have o1:=(ha.f).trans h3;have cY:=ae.keep o1 hb (λe=>Hg lb e rfl);have o2:ae (λk=>k=lb) W1 (W1.setCell ⟨lb,0,none⟩ v'):=ae.setCell (S:=λk=>k=lb) (ae.refl _ _) (Or.inl rfl) _;have agY:=uM h4
 have hvn:∀k,v'.ownBlock=some k->k≠lb:=λk hk e=>by
  obtain⟨cur,hc⟩:=bu h2 hk;exact cE hc cY Zd e
 obtain⟨q',c',wg,_⟩:=h2.form;have oo:ae (λk=>k=lb\/(Value.slice q ns.length c).ownBlock=some k) W (W1.setCell ⟨lb,0,none⟩ v'):=(o1.mono (λ_ _ h=>Or.inr h)).trans (o2.mono (λ_ _ h=>Or.inl h));refine⟨q,ns.length,c,v',W1,Zl hb,au hb,aM,⟨_,Zl cY⟩,by simp[World.frozen?,cY],⟨_,_,_,wg⟩,⟨⟨oo.os.trans h.on.os,oo.tape.trans h.on.tape,oo.output.trans h.on.output,Nat.le_trans h.on.size oo.size,λk hk hn=>?_⟩,v',?_,?_⟩,λb cc t oq cu ht=>?_,⟨oo.size,λk o hBk hk BS=>?_⟩⟩
 ·refine(oo.block k (Nat.lt_of_lt_of_le hk h.on.size) (λe=>?_)).trans (h.on.block k hk hn);rcases e with e|e
  ·exact hn e
  ·have:=(cH hv e).1;omega
 ·rw[heap_setCell_same _ _ 0 _ _ v' cY];rfl
 ·exact ai.kept h2 o2 (λk hk e=>hvn k hk e)
 ·refine oo.block b (au oq) (λe=>?_);rcases e with e|e
  ·exact cu e
  ·obtain⟨cur,hc⟩:=bu hv e;exact cE oq hc ht rfl
 ·rw[oo.block k (au hk) (λe=>by
   rcases e with e|e
   ·rw[e,hb] at hk;injection hk with hk
    subst hk;cases BS
   ·rw[Tu hv e hk] at BS
    cases BS)]
  exact hk
theorem sg {F:Fence} {n:Nat} {P:Program} {w:World} {ops:Array Oper} {o:Oper} {a:Act} {K:Act->World->Prop} {Q:Exit->Act->World->Prop} {E:Prop}
  (hg:o.guard=none) (s x:Operand) (t:TypeId) (Au:o.op=Op.call {callee:=Callee.builtin Builtin.append,args:=#[s,x],argTypes:=#[t,t]})
  (v xv v2:Value) (w2:World) (hs:a.eval s=v) (hx:a.eval x=xv) (aM:(Builtin.append_ #[t,t] o.type #[v,xv]).run P w=.ok v2 w2) (hK:K (a.put o.dst v2) w2):
  if Region.wanted o (yielded ops a.tmps)=true then Oper.wpIn F n P o a w K Q else E:=by
 have hw:Region.wanted o (yielded ops a.tmps)=true:=by simp[Region.wanted,hg]
 rw[if_pos hw];unfold Oper.wpIn;refine⟨?_,?_⟩
 ·simp[Oper.about,Au,resolve,Target.leads,Sem.run_pure]
 ·rw[Oper.semAt_plain F _ _ (by rw[Au];intro c Sg;cases Sg)];simp[execOp,Au,resolve,invoke,builtin,hs,hx,aM,Result.andThen];exact hK
end
section
open Go.Shelf
attribute [local go_sem] Oper.semAt_some
theorem afT (F:Fence) (n:Nat) (hF:F.fn 228) (qB:F.round=none) (hn:1<=n) (l Bs qb c g cap:Nat) {α:Type} (G:α->Nat) (xs:List α) (hN:xs.length<=1000000) (p:Option Addr) (hp:0<xs.length->p=some ⟨g,0,none⟩) (A:Nat->Prop) (Eg:A Bs) (vg:A qb) (mG:0<xs.length->A g) (J Jx:List α->World->Prop)
  (hY:∀pre x W,J pre W->pre.length<xs.length->YieldAt F (n - 1) prog l (yW (G x)) W λe W'=>(Zr e (.bool true)/\J (pre++[x]) W'/\Kq A W W')\/(Zr e (.bool false)/\Jx (pre++[x]) W'))
  (W:World) (Eb:W.cell? ⟨Bs,0,none⟩=some (.pointer (some ⟨qb,c,none⟩))) (hq:W.cell? ⟨qb,c,none⟩=some (.slice p xs.length cap)) (hc:∀(k:Nat) (hk:k<xs.length),W.cell? ⟨g,k,none⟩=some (.pointer (some ⟨G xs[k],0,none⟩))) (h0:J [] W):
  CallsIn F n prog 228 #[.func (.yield l) #[] #[],Zp Bs] W λe W'=>(∃v,Zr e v)/\((∃ys,ys=xs/\J ys W')\/(∃pre,True/\Jx pre W')):=by
 obtain⟨N,AQ⟩:=Ze (xs.length);have HN:=aa AQ;rw[<-AQ] at hq hN;have HC:=aa hc;have M8:=aa hp;have HY:=aa hY;have HA:=aa mG;clear hc hp hY mG AQ;refine callsIn_of_wp func228 rfl hF ?_ qB;simp only[ntmps228,List.size_toArray,List.length_cons,List.length_nil,Nat.reduceAdd,Nat.reduceSub,Array.replicate_succ,Array.replicate_zero,List.push_toArray,List.append_toArray,List.nil_append,List.cons_append]
 gi_wp2
 gi_loopw [4,10] (λ_ i wr=>∃k:Nat,k<=N/\i=Zi (k:Int)/\Hid (J (xs.take k) wr)/\Hid (Kq A W wr)) (λ_ i _=>N - (RowKit.intOf i).toNat)
 case atStart=>exact⟨0,Nat.zero_le _,rfl,(show J (xs.take 0) W from by rw[List.take_zero];exact h0),λ_ _=>rfl⟩
 case round=>
  obtain⟨k,hk,rfl,HJ,HK⟩:=hrel;by_cases ah:k<N
  ·have dE:k<xs.length:=by have:=HN.j;omega
   have h1:(k:Int)<(N:Int):=Zo;have bf:0<=(k:Int)/\(k:Int)<(N:Int):=Zo;have iY:=Zf k Zo;obtain rfl:=M8.j Zo;have b0:wr.cell? ⟨g,k,none⟩=some (.pointer (some ⟨G xs[k],0,none⟩)):=(World.cell?_of_block (w:=W) (HK.j g (HA.j Zo))).trans (HC.j k dE)
   have Fh:Hid (xs.take (k+1)=xs.take k++[xs[k]]):=by
    show _=_;rw[List.take_succ_eq_append_getElem dE]
   have cX:Hid ((xs.take k).length<xs.length):=by
    show _<_;rw[List.length_take];omega
   generalize xs[k]=x at b0 Fh;obtain⟨fn,tmps,assign,body,hy,hR⟩:=HY.j _ x wr HJ.j cX.j;unfold yW at hy;have df:=aa hR;clear hR
   gi_wp2
   refine df.j.mono ?_;rintro e W3 (⟨rfl,D9,pS⟩|⟨rfl,D8⟩)
   ·have Nj:=aa D9;have qU:=aa (HK.j.trans pS);clear D9 pS
    gi_wp2
    go_roundw
    case rel=>exact⟨k+1,Zo,by go_num,(show J (xs.take (k+1)) W3 from by rw[Fh.j];exact Nj.j),qU⟩
    case measure=>exact Zm
   ·gi_wp2
    refine bodyPost_ret (results_none rfl _ _ _) rfl ?_;exact⟨⟨_,rfl⟩,.inr ⟨_,by first|exact D8|exact⟨trivial,D8⟩⟩⟩
  ·obtain rfl:k=N:=Zo;have h1:¬(k:Int)<(k:Int):=Zo
   gi_wp2
   go_end0;exact⟨⟨_,rfl⟩,.inl (by have:=HJ.j;rw[HN.j,List.take_length] at this;first|exact this|exact⟨_,rfl,this⟩)⟩
theorem afS (F:Fence) (n:Nat) (hF:F.fn 186) (qB:F.round=none) (qb c:Nat) (w:World):CallsIn F n prog 186 #[.pointer (some ⟨qb,c,none⟩)] w λe w'=>Zr e (.func (.func 228) #[] #[Zp w.heap.size])/\w'=w.alloc (.cells #[.pointer (some ⟨qb,c,none⟩)] 369):=by
 refine callsIn_of_wp func186 rfl hF ?_ qB;simp only[ntmps186,List.size_toArray,List.length_cons,List.length_nil,Nat.reduceAdd,Nat.reduceSub,Array.replicate_succ,Array.replicate_zero,List.push_toArray,List.append_toArray,List.nil_append,List.cons_append]
 gi_wp2
 go_ret;exact⟨rfl,rfl⟩
theorem afP (F:Fence) (n:Nat) (hF:F.fn 228) (qB:F.round=none) (hn:1<=n) (Bs qb c g cap:Nat) {α:Type} (G:α->Nat) (xs:List α) (hN:xs.length<=1000000) (p:Option Addr) (hp:0<xs.length->p=some ⟨g,0,none⟩) (A:Nat->Prop) (Eg:A Bs) (vg:A qb) (mG:0<xs.length->A g) (w:World)
  (LM:Bs<w.heap.size) (yu:qb<w.heap.size) (fW:0<xs.length->g<w.heap.size) (Eb:w.cell? ⟨Bs,0,none⟩=some (.pointer (some ⟨qb,c,none⟩))) (hq:w.cell? ⟨qb,c,none⟩=some (.slice p xs.length cap)) (hc:∀(k:Nat) (hk:k<xs.length),w.cell? ⟨g,k,none⟩=some (.pointer (some ⟨G xs[k],0,none⟩))):
  SeqStopsK F n prog 228 #[Zp Bs] (λx=>yW (G x)) (Kq A) (λys=>ys=xs) (λ_=>True) xs.length w:=λl J Jx W hW _ _ hY h0=>
 afT F n hF qB hn l Bs qb c g cap G xs hN p hp A Eg vg mG J Jx hY W ((hW.cell (p:=⟨Bs,0,none⟩) LM).trans Eb) ((hW.cell (p:=⟨qb,c,none⟩) yu).trans hq) (λk hk=>(hW.cell (p:=⟨g,k,none⟩) (fW Zo)).trans (hc k hk)) h0
end
section
variable {U V S:Nat->Prop} {w w2 w3 wr:World} {sb:Nat} {vt vl v:Value} {ts:Lp} {t:Nat} {lf:Int} {es xs:List Et} {ck:Nat}
def vK (w:World) (g k:Nat) (e:Et):World:=((((w.setCell ⟨g,k*5,none⟩ (Zi e.num)).setCell ⟨g,k*5+1,none⟩ (Zi e.bT)).setCell ⟨g,k*5+2,none⟩ (Zi e.prio)).setCell ⟨g,k*5+3,none⟩ (Zi e.left)).setCell ⟨g,k*5+4,none⟩ (Zi e.bV)
theorem JJ {base g m c:Nat} {T:TypeId} (h:ai mH w base T (Zs g m c) xs) (hm:m=xs.length) (k:Nat) (hk:k<xs.length) (e:Et):
  ai mH (vK w g k e) base T (Zs g m c) (xs.set k e)/\ae (λb=>b=g) w (vK w g k e):=by
 unfold vK;obtain⟨a0,o0⟩:=BB h hm k hk 0 Zd e.num {xs[k] with num:=e.num} rfl;obtain⟨a1,o1⟩:=BB a0 (by simpa using hm) k (by simpa using hk) 1 Zd e.bT {xs[k] with num:=e.num,bT:=e.bT} (by rw[List.getElem_set_self];rfl);rw[List.set_set] at a1;obtain⟨a2,o2⟩:=BB a1 (by simpa using hm) k (by simpa using hk) 2 Zd e.prio {xs[k] with num:=e.num,bT:=e.bT,prio:=e.prio} (by rw[List.getElem_set_self];rfl);rw[List.set_set] at a2;obtain⟨a3,o3⟩:=BB a2 (by simpa using hm) k (by simpa using hk) 3 Zd e.left {xs[k] with num:=e.num,bT:=e.bT,prio:=e.prio,left:=e.left} (by rw[List.getElem_set_self];rfl);rw[List.set_set] at a3;obtain⟨a4,o4⟩:=BB a3 (by simpa using hm) k (by simpa using hk) 4 Zd e.bV e (by rw[List.getElem_set_self];rfl);rw[List.set_set] at a4;exact⟨a4,(((o0.trans o1).trans o2).trans o3).trans o4⟩
structure ky (w1:World) (v:Value) (ls:List Et) (wr:World):Prop where
 on:Zq w1 wr
 own:ai mH wr w1.heap.size 195 v ls
theorem ky.quiet {w1 wx:World} {ls:List Et} (h:ky w1 v ls wr) (ho:Zq wr wx):ky w1 v ls wx:=⟨h.on.trans ho,h.own.kept ho (λ_ _ h=>h)⟩
theorem ky.push {w1 wx:World} {v':Value} {ls Dd:List Et} (h:ky w1 v ls wr) (ho:ai mH wx w1.heap.size 195 v' Dd) (ay:ae (λk=>v.ownBlock=some k) wr wx):ky w1 v' Dd wx:=
 ⟨h.on.beyond ay (λk hk=>(cH h.own hk).1),ho⟩
theorem ky.nil (w1:World):ky w1 (.slice none 0 0) [] w1:=⟨ae.refl _ _,ai.nil _ _ _ _⟩
theorem ky.swap {g m c q:Nat} (h:ky w (Zs g m c) xs wr) (hq:q+1<xs.length):
  ky w (Zs g m c) (zJ xs q) (vK (vK wr g (q+1) (xs.getD q .df)) g q (xs.getD (q+1) .df)):=by
 have hm:m=xs.length:=by
  obtain⟨p',c',hv,_⟩:=h.own.form;injection hv
 obtain⟨a1,a2⟩:=JJ h.own hm (q+1) hq (xs.getD q .df);obtain⟨b1,b2⟩:=JJ a1 (by rw[List.length_set];exact hm) q (by rw[List.length_set];omega) (xs.getD (q+1) .df);have hg:w.heap.size<=g:=(cH h.own (k:=g) rfl).1;exact⟨h.on.beyond (a2.trans b2) (λk hk=>by subst hk;exact hg),b1⟩
def sH (w:World) (v:Value) (es:List Et) (d p:Int) (k:Nat) (wr:World):Prop:=∃xs,ky w v xs wr/\xs.Perm ((es.take k).filter (j9 d p))/\pk xs xs.length
def Ik (w:World) (v:Value) (es:List Et) (d p:Int) (k j:Nat) (wr:World):Prop:=∃xs,ky w v xs wr/\xs.Perm ((es.take k).filter (j9 d p))/\pk xs j/\j<xs.length
theorem sH.quiet {d p:Int} {k:Nat} (h:sH w v es d p k wr) (ho:Zq wr w2):sH w v es d p k w2:=by
 obtain⟨xs,h1,h2⟩:=h;exact⟨xs,h1.quiet ho,h2⟩
theorem sH.skip {d p:Int} {k:Nat} (h:sH w v es d p k wr) (hk:k<es.length) (hn:j9 d p es[k]=false):sH w v es d p (k+1) wr:=by
 obtain⟨xs,h1,h2,h3⟩:=h;refine⟨xs,h1,?_,h3⟩;rw[Tb hk,hn];simpa using h2
theorem ZC (d p:Int):sH w (.slice none 0 0) es d p 0 w:=⟨[],ky.nil w,by rw[List.take_zero];exact List.Perm.refl _,λa b _ hb=>by cases hb⟩
theorem ZD {d p:Int} {k:Nat} {wx:World} {v':Value} (h1:ky w v xs wr) (h2:xs.Perm ((es.take k).filter (j9 d p))) (h3:pk xs xs.length) (hk:k<es.length) (hn:j9 d p es[k]=true)
  (ho:ai mH wx w.heap.size 195 v' (xs++[es[k]])) (ay:ae (λk=>v.ownBlock=some k) wr wx):Ik w v' es d p (k+1) xs.length wx:=by
 refine⟨xs++[es[k]],h1.push ho ay,?_,h3.app _,by simp⟩;rw[Tb hk,if_pos hn];exact h2.append_right _
structure EC (w:World) (vl vo:Value) (xs:List Et) (k:Nat) (wr:World):Prop where
 l:ky w vl xs wr
 o:ai cO wr w.heap.size 3 vo ((xs.take k).map (·.num))
theorem EC.push {vo NU:Value} {k:Nat} {wx:World} (h:EC w v vo xs k wr) (hk:k<xs.length) (ho:ai cO wx w.heap.size 3 NU ((xs.take k).map (·.num)++[xs[k].num])) (ay:ae (λk=>vo.ownBlock=some k) wr wx):EC w v NU xs (k+1) wx:=by
 refine⟨⟨h.l.on.beyond ay (λk hk=>(cH h.o hk).1),h.l.own.kept ay (λj hj e=>?_)⟩,?_⟩
 ·obtain⟨c1,ew⟩:=bu h.l.own hj;obtain⟨c2,bH⟩:=bu h.o e;exact cE ew bH Zd rfl
 ·rw[List.take_succ_eq_append_getElem hk,List.map_append];exact ho
end
section
variable {U V S:Nat->Prop} {w w2 w3 wr:World} {sb:Nat} {vt vl v:Value} {ts:Lp} {t:Nat} {lf:Int} {es xs:List Et} {ck:Nat}
theorem adM:Kind prog cO 196 3:=kG (z:=Zi 0) (b:=8) underlying196 Zx rfl Zd
def xM (d p:Int):Int:=if d<0\/7<d\/p<0\/7<p then 1 else 0
def MI (w:World) (es:List Et) (d p:Int) (e:Ending) (w':World):Prop:=((xM d p=1/\Zr e (.tuple #[.slice none 0 0,Zi 1]))\/(xM d p=0/\∃v xs,Zr e (.tuple #[v,Zi 0])/\ai cO w' w.heap.size 3 v (xs.map (·.num))/\A8 es d p xs))/\Zq w w'
theorem ky.len {m c:Nat} {q:Option Addr} (h:ky w (.slice q m c) xs wr):m=xs.length:=by
 obtain⟨p',c',hv,_⟩:=h.own.form;injection hv
theorem ky.Cb {m c:Nat} {q:Option Addr} (h:ky w (.slice q m c) xs wr) (k:Nat) (hk:k<xs.length):∃g,q=some ⟨g,0,none⟩/\E5 wr g k xs[k]/\∀j,wr.frozen? ⟨g,j,none⟩=false:=by
 obtain⟨p',c',hv,h2⟩:=PA h.own;injection hv with h3 h4 h5
 subst h3;obtain⟨g,rfl,h6⟩:=h2 k hk;exact⟨g,rfl,h6,λj=>h.own.fz j⟩
theorem Xn (h:fg U w sb vt vl ts t lf es ck) (d p:Int) (h1:¬d<0) (h2:¬7<d) (h3:¬p<0) (h4:¬7<p):Zk 79 #[Zp sb,Zi d,Zi p] w (MI w es d p):=by
 have HH:=aa h;have HE:Hid (xM d p=0):=by show _=_;unfold xM;rw[if_neg];omega
 obtain⟨q,c,oS,_⟩:=h.l.form;obtain⟨N,hN⟩:=Ze (es.length);rw[<-hN] at oS;subst oS;have HN:=aa hN;have hn:=h.nl;rw[<-hN] at hn;clear h hN;go_enter func79,ntmps79;go_wp2_with fail;clear h1 h2 h3 h4
 go_loopw [8,9,10,11,12] (λv i _ _ _ wr=>∃k:Nat,i=Zi (k:Int)/\k<=N/\Hid (sH w v es d p k wr)) (λ_ i _ _ _ _=>N - (RowKit.intOf i).toNat)
 case atStart=>exact⟨0,rfl,Zo,ZC d p⟩
 case round=>
  obtain⟨k,rfl,hk,HS⟩:=hrel;obtain⟨xs,m1,m2,m3⟩:=HS.j;obtain⟨ql,cl,iA,_⟩:=m1.own.form;obtain⟨m,hm⟩:=Ze (xs.length);rw[<-hm] at iA;subst iA;have HM:Hid (ky w (.slice ql m cl) xs wr/\xs.Perm ((es.take k).filter (j9 d p))/\pk xs xs.length/\m=xs.length):=⟨m1,m2,m3,hm⟩
  have Du:=HH.j.quiet m1.on;have c3:=Du.c3
  have fV:m<=k:=by
   rw[hm,m2.length_eq];exact Nat.le_trans (List.length_filter_le _ _) (by rw[List.length_take];omega)
  by_cases ah:k<N
  ·have h1:(k:Int)<(N:Int):=Zo;have bf:0<=(k:Int)/\(k:Int)<(N:Int):=Zo;have iY:=Zf k Zo;have dE:k<es.length:=by have:=HN.j;omega
   obtain⟨g,rfl⟩:∃g,q=some ⟨g,0,none⟩:=by
    obtain⟨g,c2,he⟩:=Du.Ht Zo;injection he with he
    exact⟨g,he⟩
   obtain⟨b0,b1,b2,b3,b4⟩:=Du.e5 k dE;have iu:Hid (k+1<=N):=ah;obtain⟨x,hx⟩:=Ze (es[k]);rw[<-hx] at b0 b1 b2 b3 b4;have HX:Hid (∃hk:k<es.length,x=es[k]):=⟨dE,hx⟩
   obtain⟨x0,x1,x2,x3,x4⟩:=x;dsimp only at b0 b1 b2 b3 b4;obtain⟨w5,dN⟩:=Ze (wr.alloc (.cells #[Zi x0,Zi x1,Zi x2,Zi x3,Zi x4] 195));have eG:=Za dN;have tZ:Hid (ky w (.slice ql m cl) xs w5):=m1.quiet eG;have hz:w5.heap[wr.heap.size]?=some (.cells #[Zi x0,Zi x1,Zi x2,Zi x3,Zi x4] 195 (0,0)):=by rw[dN];exact heap_alloc_last _ _
   obtain⟨E,hE⟩:=Ze (wr.heap.size);rw[<-hE] at hz;have z0:Zc w5 E 0 (Zi x0):=Zl hz;have z1:Zc w5 E 1 (Zi x1):=Zl hz;have z2:Zc w5 E 2 (Zi x2):=Zl hz;have z3:Zc w5 E 3 (Zi x3):=Zl hz;have z4:Zc w5 E 4 (Zi x4):=Zl hz;have jZ:Hid (∀hk:k<es.length,j9 d p es[k]=decide (x1=d/\x2=p/\x4≠0)):=λhk=>by rw[<-hx];rfl
   clear ah hz eG HS m1 m2 m3 Du hx hm;go_upto_region 8 with fail
   rw[<-dN,<-hE];clear dN hE b0 b1 b2 b3 b4 c3
   have sL:Hid (¬(x1=d/\x2=p/\x4≠0)->sH w (.slice ql m cl) es d p (k+1) w5):=λeH=>by
    obtain⟨_,a2,a3,_⟩:=HM.j;refine sH.skip ⟨xs,tZ.j,a2,a3⟩ (by have:=iu.j;have:=HN.j;omega) ?_;rw[jZ.j];exact decide_eq_false eH
   by_cases g1:x1=d
   ·subst g1;by_cases g2:x2=p
    ·subst g2;by_cases g3:x4=0
     ·subst g3;have HQ:=aa (sL.j (λhh=>hh.2.2 rfl));go_wp2_with fail;go_roundw
      case rel=>exact⟨k+1,by go_num,iu.j,HQ⟩
      case measure=>have:=iu.j;simp only[RowKit.intOf];omega
     ·have g3':(x4==0)=false:=beq_eq_false_iff_ne.2 g3;have oD:Hid (xs.length+1<=10000000):=by have:=HM.j.2.2.2;show _+_<=_;omega
      have oG:Hid (w.heap.size<=w5.heap.size):=tZ.j.on.size
      have vz:Hid (∀v' wx,ai mH wx w.heap.size 195 v' (xs++[⟨x0,x1,x2,x3,x4⟩])->ae (λk=>(Value.slice ql m cl).ownBlock=some k) w5 wx->Ik w v' es x1 x2 (k+1) m wx):=λv' wx a b=>by
       obtain⟨hk,hx⟩:=HX.j;rw[hx] at a;have h9:=ZD tZ.j HM.j.2.1 HM.j.2.2.1 hk (by rw[jZ.j];exact decide_eq_true ⟨rfl,rfl,g3⟩) a b;rw[HM.j.2.2.2];exact h9
      obtain⟨M,hM⟩:=Ze (m+1);have HVL:Hid ((xs++[(⟨x0,x1,x2,x3,x4⟩:Et)]).length=M):=by show _=_;rw[List.length_append,List.length_singleton,hM,HM.j.2.2.2]
      have rE:IntKind.i64.wrap ((M:Int) - 1)=(m:Int):=by rw[IntKind.wrap_i64];omega
      have sO:=aa hM;clear hM;go_wp2_with (at_builtin;refine mg Te _ rfl _ _ rfl w.heap.size (.slice ql m cl) _ rfl tZ.j.own ⟨x0,x1,x2,x3,x4⟩ _ _ rfl rfl rfl oD.j oG.j ?_;intro v' w8 bc aP bB;obtain⟨pz,cz,ka,_⟩:=bc.form;rw[HVL.j] at ka;subst ka;have Ct:=aa (vz.j _ _ bc aP);clear bc aP bB);clear z0 z1 z2 z3 z4 rE
      go_loopw [11,12] (λi _ wr=>∃j:Nat,i=Zi (j:Int)/\j<=m/\Hid (Ik w (.slice pz M cz) es x1 x2 (k+1) j wr)) (λi _ _=>(RowKit.intOf i).toNat)
      case atStart=>exact⟨m,rfl,Nat.le_refl _,Ct⟩
      case round=>
       clear Ct;obtain⟨j,rfl,hj,Ct⟩:=hrel;by_cases qF:j=0
       ·subst qF
        have HQ:Hid (sH w (.slice pz M cz) es x1 x2 (k+1) wr):=by
         obtain⟨ys,a1,a2,a3,a4⟩:=Ct.j;exact⟨ys,a1,a2,a3.stop (Or.inl rfl)⟩
        go_wp2_with fail;go_quiet (fail);go_wp2_with fail;go_roundw
        case rel=>exact⟨k+1,by go_num,iu.j,HQ.j.quiet ((ae.refl _ _).drewN _)⟩
        case measure=>have:=iu.j;simp only[RowKit.intOf];omega
       ·obtain⟨u,rfl⟩:∃u,j=u+1:=⟨j - 1,Zo⟩
        obtain⟨ys,a1,a2,a3,a4⟩:=Ct.j;have Ad:M=ys.length:=a1.len;obtain⟨g2,rfl,Cd,iQ⟩:=a1.Cb (u+1) a4;obtain⟨Ca,yD,Mm,_⟩:=a1.Cb u Zo;obtain rfl:g2=Ca:=by simpa using yD
        have e1:ys.getD (u+1) .df=ys[u+1]:=kK a4;have e2:ys.getD u .df=ys[u]:=kK _;generalize ys[u+1]=yb at Cd e1;generalize ys[u]=ya at Mm e2;have b4:=Cd.c4;have d4:=Mm.c4;have MP:Hid (ky w (Zs g2 M cz) ys wr/\ys.Perm ((es.take (k+1)).filter (j9 x1 x2))/\pk ys (u+1)/\u+1<ys.length/\ys.getD (u+1) .df=yb/\ys.getD u .df=ya):=⟨a1,a2,a3,a4,e1,e2⟩
        have G7:(0:Int)<(u:Int)+1:=Zo;have aek:(0:Int)<((u+1:Nat):Int):=Zo;have Sc:0<=(u:Int)+1/\(u:Int)+1<(M:Int):=Zo;have Sb:0<=((u+1:Nat):Int)/\((u+1:Nat):Int)<(M:Int):=Zo;have Sd:0<=(u:Int)/\(u:Int)<(M:Int):=Zo;have jT:IntKind.i64.wrap ((u:Int)+1 - 1)=(u:Int):=by rw[IntKind.wrap_i64];omega
        have adV:IntKind.i64.wrap (u:Int)=(u:Int):=by rw[IntKind.wrap_i64];omega
        have adU:IntKind.i64.wrap (((u+1:Nat):Int) - 1)=(u:Int):=by rw[IntKind.wrap_i64];omega
        have HUM:Hid (u<=m):=by show u<=m;omega
        clear a1 a2 a3 a4 e1 e2 Ad yD qF hj Ct Mm Cd iQ;obtain⟨y0,y1,y2,y3,y4⟩:=yb;obtain⟨v0,v1,v2,v3,v4⟩:=ya;dsimp only at b4 d4;by_cases g5:y4<v4
        ·have g5':decide (y4<v4)=true:=decide_eq_true g5;go_wp2_with fail;go_quiet (fail);obtain⟨w3,dz⟩:=Ze (wr.drewN nq);have yy:Zq wr w3:=by rw[dz];exact(ae.refl _ wr).drewN _
         rw[<-dz];clear dz b4 d4;obtain⟨a1,a2,a3,a4,e1,e2⟩:=MP.j;have Gs:=a1.quiet yy;have Ad:M=ys.length:=a1.len;obtain⟨ga,R1,Cd,_⟩:=Gs.Cb (u+1) a4;obtain rfl:g2=ga:=by simpa using R1
         rw[<-kK a4,e1] at Cd;obtain⟨b0,b1,b2,b3,b4⟩:=Cd;dsimp only at b0 b1 b2 b3 b4;obtain⟨wa,uT⟩:=Ze (w3.alloc (.cells #[Zi y0,Zi y1,Zi y2,Zi y3,Zi y4] 195));have Rq:=Za uT;have Kg:wa.heap[w3.heap.size]?=some (.cells #[Zi y0,Zi y1,Zi y2,Zi y3,Zi y4] 195 (0,0)):=by rw[uT];exact heap_alloc_last _ _
         have fW:g2<w3.heap.size:=(cH Gs.own (k:=g2) rfl).2;obtain⟨F,hF⟩:=Ze (w3.heap.size);rw[<-hF] at Kg fW;have ma:=Gs.quiet Rq;obtain⟨gb,mD,Tk,iQ⟩:=ma.Cb (u+1) a4;obtain rfl:g2=gb:=by simpa using mD
         obtain⟨gc,oh,Tj,_⟩:=ma.Cb u Zo;obtain rfl:g2=gc:=by simpa using oh
         rw[<-kK a4,e1] at Tk;rw[<-kK (show u<ys.length from Zo),e2] at Tj;obtain⟨c0,c1,c2,c3,c4⟩:=Tk;obtain⟨d0,d1,d2,d3,d4⟩:=Tj;dsimp only at c0 c1 c2 c3 c4 d0 d1 d2 d3 d4;have f0:=iQ ((u+1)*5);have f1:=iQ ((u+1)*5+1);have f2:=iQ ((u+1)*5+2);have f3:=iQ ((u+1)*5+3);have f4:=iQ ((u+1)*5+4);obtain⟨o5,o6⟩:=JJ ma.own Ad (u+1) a4 (ys.getD u .df)
         have pD:Hid (Ik w (Zs g2 M cz) es x1 x2 (k+1) u (vK (vK wa g2 (u+1) ⟨v0,v1,v2,v3,v4⟩) g2 u ⟨y0,y1,y2,y3,y4⟩)):=by
          have h9:=ma.swap a4;rw[e1,e2] at h9;exact⟨_,h9,(W7 a4).trans a2,a3.swap a4 (by rw[e1,e2];exact g5),by rw[Og];omega⟩
         rw[e2] at o5 o6;obtain⟨wb,Dn⟩:=Ze (vK wa g2 (u+1) ⟨v0,v1,v2,v3,v4⟩);rw[<-Dn] at o5 o6 pD;have bh:u<(ys.set (u+1) ⟨v0,v1,v2,v3,v4⟩).length:=by rw[List.length_set];omega
         obtain⟨r0,i0⟩:∃r,wb.cell? ⟨g2,u*5,none⟩=some r:=⟨_,o5.cell u 0 bh Zd⟩
         obtain⟨r1,i1⟩:∃r,wb.cell? ⟨g2,u*5+1,none⟩=some r:=⟨_,o5.cell u 1 bh Zd⟩
         obtain⟨r2,i2⟩:∃r,wb.cell? ⟨g2,u*5+2,none⟩=some r:=⟨_,o5.cell u 2 bh Zd⟩
         obtain⟨r3,i3⟩:∃r,wb.cell? ⟨g2,u*5+3,none⟩=some r:=⟨_,o5.cell u 3 bh Zd⟩
         obtain⟨r4,i4⟩:∃r,wb.cell? ⟨g2,u*5+4,none⟩=some r:=⟨_,o5.cell u 4 bh Zd⟩
         have j0:=o5.fz (u*5);have j1:=o5.fz (u*5+1);have j2:=o5.fz (u*5+2);have j3:=o5.fz (u*5+3);have j4:=o5.fz (u*5+4);have BI:=ae.keep o6 Kg Zo;have k0:wb.cell? ⟨F,0,none⟩=some (Zi y0):=Zl BI;have k1:wb.cell? ⟨F,1,none⟩=some (Zi y1):=Zl BI;have k2:wb.cell? ⟨F,2,none⟩=some (Zi y2):=Zl BI;have k3:wb.cell? ⟨F,3,none⟩=some (Zi y3):=Zl BI;have k4:wb.cell? ⟨F,4,none⟩=some (Zi y4):=Zl BI;unfold vK at Dn;dsimp only at Dn;clear a1 a2 a3 a4 e1 e2 Gs Ad R1 Rq Kg fW ma mD oh iQ o5 o6 bh BI MP yy;go_upto_region 14 with fail
         rw[<-uT,<-hF];clear uT hF b0 b1 b2 b3 b4;go_upto_region 15 with fail
         rw[<-Dn];clear Dn c0 c1 c2 c3 c4 d0 d1 d2 d3 d4 f0 f1 f2 f3 f4;go_wp2_with fail;go_roundw
         case rel=>exact⟨u,by go_num,HUM.j,pD⟩
         case measure=>exact Zm
        ·have g5':decide (y4<v4)=false:=decide_eq_false g5
         have HQ:Hid (sH w (Zs g2 M cz) es x1 x2 (k+1) wr):=by
          obtain⟨a1,a2,a3,a4,e1,e2⟩:=MP.j;exact⟨ys,a1,a2,a3.stop (Or.inr ⟨u,rfl,by rw[e1,e2];exact g5⟩)⟩
         go_wp2_with fail;go_quiet (fail);go_wp2_with fail;go_roundw
         case rel=>exact⟨k+1,by go_num,iu.j,HQ.j.quiet ((ae.refl _ _).drewN _)⟩
         case measure=>have:=iu.j;simp only[RowKit.intOf];omega
    ·have Ca:(x2==p)=false:=beq_eq_false_iff_ne.2 g2;have ah8:(x2 !=p)=true:=by simpa using g2
     have HQ:=aa (sL.j (λhh=>g2 hh.2.1));go_wp2_with fail;go_roundw
     case rel=>exact⟨k+1,by go_num,iu.j,HQ⟩
     case measure=>have:=iu.j;simp only[RowKit.intOf];omega
   ·have wV:(x1==d)=false:=beq_eq_false_iff_ne.2 g1;have ah9:(x1 !=d)=true:=by simpa using g1
    have HQ:=aa (sL.j (λhh=>g1 hh.1));go_wp2_with fail;go_roundw
    case rel=>exact⟨k+1,by go_num,iu.j,HQ⟩
    case measure=>have:=iu.j;simp only[RowKit.intOf];omega
  ·obtain rfl:k=N:=Zo;have h1:¬(k:Int)<(k:Int):=Zo
   have r8:Hid (A8 es d p xs):=by
    refine⟨?_,m3.whole⟩;have h9:=m2;rw[HN.j,List.take_length] at h9;exact h9
   have agX:m<=1000000:=Zo;clear ah Du HS m1 m2 m3 hm fV;go_wp2_with fail;clear h1 c3
   go_loopw [13,14] (λvo i wr=>∃j:Nat,i=Zi (j:Int)/\j<=m/\Hid (EC w (.slice ql m cl) vo xs j wr)) (λ_ i _=>m - (RowKit.intOf i).toNat)
   case atStart=>exact⟨0,rfl,Zo,⟨HM.j.1,by rw[List.take_zero];exact ai.nil _ _ _ _⟩⟩
   case round=>
    obtain⟨j,rfl,hj,HJ⟩:=hrel;obtain⟨qo,co,GI,_⟩:=HJ.j.o.form;obtain⟨mo,wH⟩:=Ze (((xs.take j).map (·.num)).length);rw[<-wH] at GI;subst GI;by_cases ah:j<m
    ·have h1:(j:Int)<(m:Int):=Zo;have bf:0<=(j:Int)/\(j:Int)<(m:Int):=Zo;have jT:=Zf j Zo;have bg:j<xs.length:=by have:=HM.j.2.2.2;omega
     obtain⟨g2,rfl,e5,_⟩:=HJ.j.l.Cb j bg;have b0:=e5.c0;have jw:Hid (((xs.take j).map (·.num)).length+1<=10000000):=by show _+_<=_;rw[List.length_map,List.length_take];omega
     have oG:Hid (w.heap.size<=wr.heap.size):=HJ.j.l.on.size;have vz:Hid (∀v' wx,ai cO wx w.heap.size 3 v' ((xs.take j).map (·.num)++[xs[j].num])->ae (λk=>(Value.slice qo mo co).ownBlock=some k) wr wx->EC w (Zs g2 m cl) v' xs (j+1) wx):=λv' wx a b=>HJ.j.push bg a b
     have Ux:Hid (j+1<=m):=ah;generalize xs[j].num=y at b0 vz;clear ah e5 bg wH;go_wp2_with (at_builtin;refine mg adM _ rfl _ _ rfl w.heap.size (.slice qo mo co) _ rfl HJ.j.o (y) _ _ rfl (by simp) rfl jw.j oG.j ?_;intro v9 w9 bc aP bB;have aG:=aa (vz.j _ _ bc aP);clear bc aP bB);go_roundw
     case rel=>exact⟨j+1,by go_num,Ux.j,aG⟩
     case measure=>have:=Ux.j;simp only[RowKit.intOf];omega
    ·obtain rfl:j=m:=Zo;have h1:¬(j:Int)<(j:Int):=Zo
     have pE:Hid (ai cO wr w.heap.size 3 (.slice qo mo co) (xs.map (·.num))/\Zq w wr):=by
      refine⟨?_,HJ.j.l.on⟩;have h9:=HJ.j.o;rw[List.take_of_length_le (by have:=HM.j.2.2.2;omega)] at h9;exact h9
     clear ah wH;go_wp2_with fail
     all_goals
      go_ret2;exact⟨Or.inr ⟨HE.j,_,_,rfl,pE.j.1,r8.j⟩,pE.j.2⟩
end
section
variable {U V S:Nat->Prop} {w w2 w3 wr:World} {sb:Nat} {vt vl v:Value} {ts:Lp} {t:Nat} {lf:Int} {es xs:List Et} {ck:Nat}
theorem Xo (h:fg U w sb vt vl ts t lf es ck) (d p:Int):Zk 79 #[Zp sb,Zi d,Zi p] w (MI w es d p):=by
 have HB:Hid ((d<0\/7<d\/p<0\/7<p)->MI w es d p (.returned (.tuple #[.slice none 0 0,Zi 1])) w):=λh=>⟨Or.inl ⟨if_pos h,rfl⟩,ae.refl _ _⟩
 by_cases h1:d<0
 ·have fA:=aa (HB.j (Or.inl h1));clear h HB;go_enter func79,ntmps79;go_wp2_with fail
  all_goals
   go_ret2;exact fA.j
 ·by_cases h2:7<d
  ·have fA:=aa (HB.j (Or.inr (Or.inl h2)));clear h HB;go_enter func79,ntmps79;go_wp2_with fail
   all_goals
    go_ret2;exact fA.j
  ·by_cases h3:p<0
   ·have fA:=aa (HB.j (Or.inr (Or.inr (Or.inl h3))));clear h HB;go_enter func79,ntmps79;go_wp2_with fail
    all_goals
     go_ret2;exact fA.j
   ·by_cases h4:7<p
    ·have fA:=aa (HB.j (Or.inr (Or.inr (Or.inr h4))));clear h HB;go_enter func79,ntmps79;go_wp2_with fail
     all_goals
      go_ret2;exact fA.j
    ·exact Xn h d p h1 h2 h3 h4
end
section
open Go.Shelf
attribute [local go_sem] Oper.semAt_some
variable {U V S:Nat->Prop} {w w2 w3:World} {xb mb n:Nat} {D D2:DataW Value} {G:Int->Nat} {vt:Value} {vq:List Value} {ts:Lp} {t:Nat} {lf:Int} {es ig:List Et} {Q:Nat->List Int} {ck:Nat}
def EB (w:World) (es:List Et) (d p:Int) (e:Ending) (w':World):Prop:=((xM d p=1/\Zr e (.tuple #[.slice none 0 0,Zi 1]))\/(xM d p=0/\∃v l,Zr e (.tuple #[v,Zi 0])/\ai cO w' w.heap.size 3 v l/\NQ es d p l))/\Zq w w'
theorem Vr (h:lz U w xb G ts t lf es ck) (d p:Nat) (AJ:d<8) (Ap:p<8):Zk 143 #[Zp xb,Zi (d:Int),Zi (p:Int)] w (EB w es (d:Int) (p:Int)):=by
 obtain⟨hw,wk,mb,D,vt,vq,Q,hq,hx⟩:=h;have HD:=aa (GA (d:Int));have HP:=aa (Ka (p:Int));have e1:nn (d:Int)=true:=decide_eq_true Zo;have e2:nn (p:Int)=true:=decide_eq_true Zo;rw[e1] at HD;rw[e2] at HP;have i1:0<=(d:Int)/\(d:Int)<8:=Zo;have i2:0<=(p:Int)/\(p:Int)<8:=Zo;have HX:=aa hx;have HQ:=aa hq;have HW:=aa hw;clear e1 e2 hx hq hw wk;refine(callsIn_wide (n:=6)).1 ?_;have Lo:Fence.wide.fn 110:=trivial;have BW:Fence.wide.fn 111:=trivial;have hf3:Fence.wide.fn 186:=trivial;refine callsIn_of_wp_marks func143 rfl trivial ?_ rfl;simp only[ntmps143,List.size_toArray,List.length_cons,List.length_nil,Nat.reduceAdd,Nat.reduceSub,Array.replicate_succ,Array.replicate_zero,List.push_toArray,List.append_toArray,List.nil_append,List.cons_append]
 gi_wp2
 refine(callsIn_wide.2 (HD.j _)).e1 ?_
 gi_wp2
 refine(callsIn_wide.2 (HP.j _)).e1 ?_
 gi_wp2
 refine(afS Fence.wide 5 trivial rfl xb _ _).m ?_;rintro e w4 ⟨rfl,eF⟩;have EO:=aa eF;clear eF
 gi_wp2
 obtain⟨lb,bq⟩:=Ze (w.heap.size);obtain⟨w2,aT⟩:=Ze (w.alloc (.cells #[.slice none 0 0] 196));have jD:w2.heap.size=w.heap.size+1:=by rw[aT];simp
 have aC:=Za aT;have cw:w2.heap[lb]?=some (.cells #[.slice none 0 0] 196 (0,0)):=by rw[aT,bq];exact heap_alloc_last w _
 have eF:=EO.j;rw[<-aT] at eF;rw[<-bq];have bL:=Za eF
 have ot:w4.heap[lb+1]?=some (.cells #[.pointer (some ⟨xb,4+d*8+p,none⟩)] 369 (0,0)):=by
  rw[eF,bq,<-jD];exact heap_alloc_last w2 _
 have AN:=ae.keep bL cw (λh=>h);have ho:=aC.trans bL;have tm:=HX.j.quiet ho;have hj:d*8+p<64:=Zo;have DN:=lz.O1 HQ.j HX.j _ hj
 have gQ:∀x∈Q (d*8+p),∃e∈es,e.num=x:=λx Dm=>by
  obtain⟨e,he,h9,_⟩:=(HQ.j _ hj).mem.1 Dm;exact⟨e,he,h9⟩
 have AK:w4.cell? ⟨xb,4+d*8+p,none⟩=some (qv vq (d*8+p)):=by
  rw[Nat.add_assoc];exact tm.cq _ hj
 obtain⟨rq,rc,Ak,_,_,mx⟩:=(tm.qs _ hj).form
 obtain⟨gb,mD⟩:∃gb,0<((Q (d*8+p)).map G).length->rq=some ⟨gb,0,none⟩/\(qv vq (d*8+p)).ownBlock=some gb:=by
  by_cases h0:0<((Q (d*8+p)).map G).length
  ·obtain⟨g,h1,_,_,h2⟩:=mx h0;exact⟨g,λ_=>⟨h1,h2⟩⟩
  ·exact⟨0,λh=>absurd h h0⟩
 obtain⟨xs,Af⟩:∃xs:List {x:Int//∃e∈es,e.num=x},xs=(Q (d*8+p)).pmap (λx hx=>⟨x,hx⟩) gQ:=⟨_,rfl⟩
 have iz:xs.length=(Q (d*8+p)).length:=by rw[Af,List.length_pmap]
 have iN:xs.map (·.1)=Q (d*8+p):=by rw[Af,List.map_pmap];simp
 have DT:∀(k:Nat) (hk:k<xs.length),w4.cell? ⟨gb,k,none⟩=some (.pointer (some ⟨G xs[k].1,0,none⟩)):=λk hk=>by
  have dA:k<((Q (d*8+p)).map G).length:=by rw[List.length_map,<-iz];exact hk
  have h1:=tm.qs _ hj;rw[Ak,(mD Zo).1] at h1;have h2:=ZV (N:=((Q (d*8+p)).map G).length) (cap:=rc) h1 k dA;rw[h2,List.getElem_map]
  have h3:(Q (d*8+p))[k]'(by rw[<-iz];exact hk)=xs[k].1:=by
   have:(xs.map (·.1))[k]'(by rw[List.length_map];exact hk)=xs[k].1:=by rw[List.getElem_map]
   rw[<-this];congr 1;exact iN.symm
  rw[h3]
 have Dx:xb<w4.heap.size:=au tm.x;have Al:0<xs.length->∃cur,w4.heap[gb]?=some (.cells cur 264 (0,0)):=λh0=>bu (tm.qs _ hj) (mD (by rw[List.length_map,<-iz];exact h0)).2
 have Ai:=afP Fence.wide 5 trivial rfl Zo (lb+1) xb (4+d*8+p) gb rc (λx:{x:Int//∃e∈es,e.num=x}=>G x.1) xs Zo rq (λh0=>(mD (by rw[List.length_map,<-iz];exact h0)).1) (λb=>b=lb+1\/b=xb\/(0<xs.length/\b=gb)) (Or.inl rfl) (Or.inr (Or.inl rfl)) (λh0=>Or.inr (Or.inr ⟨h0,rfl⟩)) w4 (au ot) Dx (λh0=>by obtain⟨cur,hc⟩:=Al h0;exact au hc) (Zl ot) (by rw[AK,Ak,List.length_map,iz]) DT;have B8:qP w4 lb [] w4:=⟨ae.refl _ _,_,AN,ai.nil _ _ _ _⟩
 have Dv:∀x:{x:Int//∃e∈es,e.num=x},∃e∈es,e.num=x.1/\w4.heap[G x.1]?=some (.cells (qm e) 266 (0,0)):=λ⟨x,e,he,h9⟩=>⟨e,he,h9,by subst h9;exact tm.rn e he⟩
 have hB:∀b c t,w4.heap[b]?=some (.cells c t (0,0))->t≠196->b≠lb:=λb c t h1 h2=>cE h1 AN h2
 have cN:=aa B8;have EU:=aa Dv;have zn:=aa (⟨iz,iN,DN⟩:_/\_/\_);have kC:=aa hB;have kO:=aa ot;have A9:=aa tm.x;have im:=aa Al;have E2:=aa (⟨ho,jD,eF,bL⟩:_/\_/\_/\_);have kB:=aa bq;have HQN:=aa (HQ.j _ hj);clear B8 Dv iz iN DN hB ot tm Al ho jD eF bL aC cw AN aT AK Ak mx mD Af DT Dx gQ bq EO HX HQ HW
 refine wpIn_rangeFunc_ownH (α:={x:Int//∃e∈es,e.num=x}) rfl Zo (gf:=228) (lb:=#[.pointer (some ⟨lb+1,0,none⟩)]) rfl trivial (enters_of func228 Zx rfl)
  Ai (fun {A B C} h k=>Kq.trans h k) ?hKb (Below.refl _ _) (λx=>rfl)
  (λ(pre:List {x:Int//∃e∈es,e.num=x}) W=>qP w4 lb (pre.map (λx=>x.1)) W) (λ_ _ _=>False)
  (by intro pre W W2 row hs hg hr;exact qP.grow hs hg hr) (λ_ _ _ _ _ h _ _=>h) cN.j
  (λx a2 W=>a2={tmps:=#[Zp xb,Zi (d:Int),Zi (p:Int),undef,undef,undef,.slice none 0 0,Zi 0,Zp lb,.pointer (some ⟨G x.1,0,none⟩),Zi (d:Int),.bool true,.bool false,.bool false,Zi (p:Int),.bool true,.bool false,.bool false,Zp xb,Zi (d:Int),Zi (p:Int),Zp xb,.pointer (some ⟨xb,4,none⟩),.pointer (some ⟨xb,4+d*8,none⟩),.pointer (some ⟨xb,4+d*8+p,none⟩),.func (.func 228) #[] #[.pointer (some ⟨lb+1,0,none⟩)],.pointer (some ⟨G x.1,0,none⟩),undef,undef,undef,undef,undef,undef,undef,undef],defers:=[]}) (λx a2 _ _ _ _ hs _ _=>hs) ?assign ?body ?done ?stop
 case hKb=>
  intro W l o o2 hl _ _ _ b hb
  have cu:b≠l:=by
   rcases hb with rfl|rfl|⟨h0,rfl⟩
   ·have:=au kO.j;omega
   ·have:=au A9.j;omega
   ·obtain⟨cur,hc⟩:=im.j h0;have:=au hc;omega
  exact World.putObj_heap_other cu
 case assign=>
  rintro l pre x W K hi hK;unfold yW
  gi_wp2
  exact hK _ _ (KeepsFrom.refl _ _) (λ_ _=>rfl) hi rfl
 case body=>
  rintro l pre x a2 W hl hr hI rfl ah;obtain⟨e,he,oZ,tB⟩:=EU.j x;have An:W.heap[G x.1]?=some (.cells (qm e) 266 (0,0)):=ae.keep hI.on tB (kC.j _ _ _ tB Zd);have r0:=(OZ An).c0;rw[oZ] at r0;have jm:=au An;obtain⟨q,m,c,v',W1,c0,aeh,aM,⟨y,hy⟩,hf,⟨q',m',c',rfl⟩,hQ,wI,mC⟩:=hI.push (by rw[List.length_map];have:=zn.j;omega) x.1
  have D7:Kq (λb=>b=lb+1\/b=xb\/(0<xs.length/\b=gb)) W (W1.setCell ⟨lb,0,none⟩ (.slice q' m' c')):=by
   have hk:∀(b:Nat) (c:Array Value) (t:TypeId),w4.heap[b]?=some (.cells c t (0,0))->t≠196->t≠3->(W1.setCell ⟨lb,0,none⟩ (.slice q' m' c')).heap[b]?=W.heap[b]?:=λb c t h1 h2 h3=>by
    have cu:=kC.j b c t h1 h2;exact wI b c t (ae.keep hI.on h1 cu) cu h3
   intro b hb;rcases hb with rfl|rfl|⟨h0,rfl⟩
   ·exact hk _ _ _ kO.j Zd Zd
   ·exact hk _ _ _ A9.j Zd Zd
   ·obtain⟨cur,hc⟩:=im.j h0;exact hk _ _ _ hc Zd Zd
  have eO:Hid (KeepsFrom w4.heap.size W (W1.setCell ⟨lb,0,none⟩ (.slice q' m' c'))/\Kq (λb=>b=lb+1\/b=xb\/(0<xs.length/\b=gb)) W (W1.setCell ⟨lb,0,none⟩ (.slice q' m' c'))/\qP w4 lb (List.map (λx=>x.1) (pre++[x])) (W1.setCell ⟨lb,0,none⟩ (.slice q' m' c'))):=⟨mC,D7,by rw[List.map_append];exact hQ⟩
  obtain⟨x,GG⟩:=x;dsimp only at r0 aM jm;clear hI hQ wI mC D7 tB An oZ hr hl;generalize G x=gx at r0 jm|-
  gi_wp2
  refine wpIn_region_any Zx ?_
  try (change wpAnyIn _ _ _ _ _ _ _ _ _ (World.drew _))
  refine wpAnyIn_ready (rs:=[0,1]) Zx (by simp) ?_;refine AllReadyIn.cons rfl (λK hK=>?_) ?_
  ·go_simp;refine hK _ _ ?_;refine wpAnyIn_ready (rs:=[1]) Zx (by simp) ?_;refine AllReadyIn.cons rfl (λK hK=>?_) ?_
   ·go_simp;refine hK _ _ ?_;refine wpAnyIn_ready (rs:=[2]) Zx (by simp) ?_;refine AllReadyIn.cons rfl (λK hK=>?_) ?_
    ·go_simp;refine hK _ _ ?_;refine wpAnyIn_ready (rs:=[3]) Zx (by simp) ?_;refine AllReadyIn.cons rfl (λK hK=>?_) ?_
     ·go_simp;refine hK _ _ ?_;refine wpAnyIn_ready (rs:=[4]) Zx (by simp) ?_;refine AllReadyIn.cons rfl (λK hK=>?_) ?_
      ·go_simp;refine hK _ _ ?_;refine wpAnyIn_ready (rs:=[5]) Zx (by simp) ?_;refine AllReadyIn.cons rfl (λK hK=>?_) ?_
       ·go_simp;refine hK _ _ ?_;refine wpAnyIn_ready (rs:=[6]) Zx (by simp) ?_;refine AllReadyIn.cons rfl (λK hK=>?_) ?_
        ·refine sg rfl (.tmp 27) (.tmp 32) 196 rfl (.slice q m c) (Zs W.heap.size 1 1) _ _ rfl rfl (aM _) ?_;refine hK _ _ ?_;refine wpAnyIn_ready (rs:=[7]) Zx (by simp) ?_;refine AllReadyIn.cons rfl (λK hK=>?_) ?_
         ·go_simp;refine hK _ _ ?_;refine wpAnyIn_done Zx ?_ _
          gi_wp2
          exact eO.j
         exact AllReadyIn.nil
        exact AllReadyIn.nil
       exact AllReadyIn.nil
      exact AllReadyIn.nil
     exact AllReadyIn.nil
    exact AllReadyIn.nil
   exact AllReadyIn.nil
  refine AllReadyIn.cons rfl (λK hK=>?_) ?_
  ·go_simp;refine hK _ _ ?_;refine wpAnyIn_ready (rs:=[0,2]) Zx (by simp) ?_;refine AllReadyIn.cons rfl (λK hK=>?_) ?_
   ·go_simp;refine hK _ _ ?_;refine wpAnyIn_ready (rs:=[2]) Zx (by simp) ?_;refine AllReadyIn.cons rfl (λK hK=>?_) ?_
    ·go_simp;refine hK _ _ ?_;refine wpAnyIn_ready (rs:=[3]) Zx (by simp) ?_;refine AllReadyIn.cons rfl (λK hK=>?_) ?_
     ·go_simp;refine hK _ _ ?_;refine wpAnyIn_ready (rs:=[4]) Zx (by simp) ?_;refine AllReadyIn.cons rfl (λK hK=>?_) ?_
      ·go_simp;refine hK _ _ ?_;refine wpAnyIn_ready (rs:=[5]) Zx (by simp) ?_;refine AllReadyIn.cons rfl (λK hK=>?_) ?_
       ·go_simp;refine hK _ _ ?_;refine wpAnyIn_ready (rs:=[6]) Zx (by simp) ?_;refine AllReadyIn.cons rfl (λK hK=>?_) ?_
        ·refine sg rfl (.tmp 27) (.tmp 32) 196 rfl (.slice q m c) (Zs W.heap.size 1 1) _ _ rfl rfl (aM _) ?_;refine hK _ _ ?_;refine wpAnyIn_ready (rs:=[7]) Zx (by simp) ?_;refine AllReadyIn.cons rfl (λK hK=>?_) ?_
         ·go_simp;refine hK _ _ ?_;refine wpAnyIn_done Zx ?_ _
          gi_wp2
          exact eO.j
         exact AllReadyIn.nil
        exact AllReadyIn.nil
       exact AllReadyIn.nil
      exact AllReadyIn.nil
     exact AllReadyIn.nil
    exact AllReadyIn.nil
   refine AllReadyIn.cons rfl (λK hK=>?_) ?_
   ·go_simp;refine hK _ _ ?_;refine wpAnyIn_ready (rs:=[0,3]) Zx (by simp) ?_;refine AllReadyIn.cons rfl (λK hK=>?_) ?_
    ·go_simp;refine hK _ _ ?_;refine wpAnyIn_ready (rs:=[3]) Zx (by simp) ?_;refine AllReadyIn.cons rfl (λK hK=>?_) ?_
     ·go_simp;refine hK _ _ ?_;refine wpAnyIn_ready (rs:=[4]) Zx (by simp) ?_;refine AllReadyIn.cons rfl (λK hK=>?_) ?_
      ·go_simp;refine hK _ _ ?_;refine wpAnyIn_ready (rs:=[5]) Zx (by simp) ?_;refine AllReadyIn.cons rfl (λK hK=>?_) ?_
       ·go_simp;refine hK _ _ ?_;refine wpAnyIn_ready (rs:=[6]) Zx (by simp) ?_;refine AllReadyIn.cons rfl (λK hK=>?_) ?_
        ·refine sg rfl (.tmp 27) (.tmp 32) 196 rfl (.slice q m c) (Zs W.heap.size 1 1) _ _ rfl rfl (aM _) ?_;refine hK _ _ ?_;refine wpAnyIn_ready (rs:=[7]) Zx (by simp) ?_;refine AllReadyIn.cons rfl (λK hK=>?_) ?_
         ·go_simp;refine hK _ _ ?_;refine wpAnyIn_done Zx ?_ _
          gi_wp2
          exact eO.j
         exact AllReadyIn.nil
        exact AllReadyIn.nil
       exact AllReadyIn.nil
      exact AllReadyIn.nil
     exact AllReadyIn.nil
    refine AllReadyIn.cons rfl (λK hK=>?_) ?_
    ·go_simp;refine hK _ _ ?_;refine wpAnyIn_ready (rs:=[0,4]) Zx (by simp) ?_;refine AllReadyIn.cons rfl (λK hK=>?_) ?_
     ·go_simp;refine hK _ _ ?_;refine wpAnyIn_ready (rs:=[4]) Zx (by simp) ?_;refine AllReadyIn.cons rfl (λK hK=>?_) ?_
      ·go_simp;refine hK _ _ ?_;refine wpAnyIn_ready (rs:=[5]) Zx (by simp) ?_;refine AllReadyIn.cons rfl (λK hK=>?_) ?_
       ·go_simp;refine hK _ _ ?_;refine wpAnyIn_ready (rs:=[6]) Zx (by simp) ?_;refine AllReadyIn.cons rfl (λK hK=>?_) ?_
        ·refine sg rfl (.tmp 27) (.tmp 32) 196 rfl (.slice q m c) (Zs W.heap.size 1 1) _ _ rfl rfl (aM _) ?_;refine hK _ _ ?_;refine wpAnyIn_ready (rs:=[7]) Zx (by simp) ?_;refine AllReadyIn.cons rfl (λK hK=>?_) ?_
         ·go_simp;refine hK _ _ ?_;refine wpAnyIn_done Zx ?_ _
          gi_wp2
          exact eO.j
         exact AllReadyIn.nil
        exact AllReadyIn.nil
       exact AllReadyIn.nil
      exact AllReadyIn.nil
     refine AllReadyIn.cons rfl (λK hK=>?_) ?_
     ·go_simp;refine hK _ _ ?_;refine wpAnyIn_ready (rs:=[0,5]) Zx (by simp) ?_;refine AllReadyIn.cons rfl (λK hK=>?_) ?_
      ·go_simp;refine hK _ _ ?_;refine wpAnyIn_ready (rs:=[5]) Zx (by simp) ?_;refine AllReadyIn.cons rfl (λK hK=>?_) ?_
       ·go_simp;refine hK _ _ ?_;refine wpAnyIn_ready (rs:=[6]) Zx (by simp) ?_;refine AllReadyIn.cons rfl (λK hK=>?_) ?_
        ·refine sg rfl (.tmp 27) (.tmp 32) 196 rfl (.slice q m c) (Zs W.heap.size 1 1) _ _ rfl rfl (aM _) ?_;refine hK _ _ ?_;refine wpAnyIn_ready (rs:=[7]) Zx (by simp) ?_;refine AllReadyIn.cons rfl (λK hK=>?_) ?_
         ·go_simp;refine hK _ _ ?_;refine wpAnyIn_done Zx ?_ _
          gi_wp2
          exact eO.j
         exact AllReadyIn.nil
        exact AllReadyIn.nil
       exact AllReadyIn.nil
      refine AllReadyIn.cons rfl (λK hK=>?_) ?_
      ·go_simp;refine hK _ _ ?_;refine wpAnyIn_ready (rs:=[0]) Zx (by simp) ?_;refine AllReadyIn.cons rfl (λK hK=>?_) ?_
       ·go_simp;refine hK _ _ ?_;refine wpAnyIn_ready (rs:=[6]) Zx (by simp) ?_;refine AllReadyIn.cons rfl (λK hK=>?_) ?_
        ·refine sg rfl (.tmp 27) (.tmp 32) 196 rfl (.slice q m c) (Zs W.heap.size 1 1) _ _ rfl rfl (aM _) ?_;refine hK _ _ ?_;refine wpAnyIn_ready (rs:=[7]) Zx (by simp) ?_;refine AllReadyIn.cons rfl (λK hK=>?_) ?_
         ·go_simp;refine hK _ _ ?_;refine wpAnyIn_done Zx ?_ _
          gi_wp2
          exact eO.j
         exact AllReadyIn.nil
        exact AllReadyIn.nil
       exact AllReadyIn.nil
      exact AllReadyIn.nil
     exact AllReadyIn.nil
    exact AllReadyIn.nil
   exact AllReadyIn.nil
  exact AllReadyIn.nil
 case done=>
  rintro D ys W hD rfl hI hK;obtain⟨v,hb,hv⟩:=hI.bx;have fM:W.cell? ⟨lb,0,none⟩=some v:=Zl hb;have h1:=hI.grow (grownBy_putObj' W D (.deferred none)) (λr e=>by cases e;exact⟨hD,_,hK,rfl⟩);obtain⟨v2,cw,aP⟩:=h1.bx
  have we:v2=v:=by
   have:=ae.keep (JM (grownBy_putObj' W D (.deferred none))) hb (λe=>by
    cases e;rw[hb] at hK
    cases hK)
   rw[cw] at this;simpa using this
  subst we;have hO:=ae.beyond E2.j.1 h1.on (λk e=>by rw[e,kB.j];exact Nat.le_refl _);have aR:=E2.j.1.size
  have HF:Hid (EB w es (d:Int) (p:Int) (.returned (.tuple #[v2,Zi 0])) (W.putObj D (.deferred none))):=by
   have bB:=aP;rw[zn.j.2.1] at bB;refine⟨Or.inr ⟨if_neg Zo,v2,Q (d*8+p),rfl,?_,?_⟩,hO⟩
   ·refine⟨bB.1,?_⟩;rcases bB.2 with h6|⟨g,c,cur,e,oq,r⟩
    ·exact Or.inl h6
    ·exact Or.inr ⟨g,c,cur,e,Zo,r⟩
   ·have:=HQN.j;have e1:(((d*8+p)/8:Nat):Int)=(d:Int):=Zo;have e2:(((d*8+p) % 8:Nat):Int)=(p:Int):=Zo;rw[e1,e2] at this;exact this
  clear hv aP hb cw h1 hI hO
  gi_wp2
  refine⟨by simp,.inl ⟨_,_,rfl,run_takeDeferred hK,?_⟩⟩;refine⟨.tuple #[v2,Zi 0],by simp[results,results143,go_sem],HF.j⟩
 case stop=>
  rintro D c pre W _ _ h _;exact h.elim
theorem Vs (h:lz U w xb G ts t lf es ck) (d p:Int):Zk 143 #[Zp xb,Zi d,Zi p] w (EB w es d p):=by
 have HD:=aa (GA d);have HP:=aa (Ka p)
 cases hb:nn d with
 |false=>
  have fA:Hid (EB w es d p (.returned (.tuple #[.slice none 0 0,Zi 1])) w):=⟨Or.inl ⟨if_pos (by have:=of_decide_eq_false hb;omega),rfl⟩,ae.refl _ _⟩
  rw[hb] at HD;clear h hb;go_enter func143,ntmps143;go_wp2_with fail;refine(HD.j _).e1 ?_;go_wp2_with fail
  all_goals
   go_ret2
   exact fA.j
 |true=>
  cases hc:nn p with
  |false=>
   have fA:Hid (EB w es d p (.returned (.tuple #[.slice none 0 0,Zi 1])) w):=⟨Or.inl ⟨if_pos (by have:=of_decide_eq_false hc;omega),rfl⟩,ae.refl _ _⟩
   rw[hb] at HD;rw[hc] at HP;clear h hb hc;go_enter func143,ntmps143;go_wp2_with fail;refine(HD.j _).e1 ?_;go_wp2_with fail;refine(HP.j _).e1 ?_;go_wp2_with fail
   all_goals
    go_ret2
    exact fA.j
  |true=>
   have h1:=of_decide_eq_true hb;have h2:=of_decide_eq_true hc;have:=Vr h d.toNat p.toNat Zo Zo;have e1:((d.toNat:Nat):Int)=d:=Zo;have e2:((p.toNat:Nat):Int)=p:=Zo;rw[e1,e2] at this;exact this
end
section
open Go.Shelf
attribute [local go_sem] Oper.semAt_some
theorem adS (F:Fence) (n:Nat) (hF:F.fn 232) (qB:F.round=none) (hn:1<=n) (l Bs qb c g cap:Nat) {α:Type} (G:α->Nat) (xs:List α) (hN:xs.length<=1000000) (p:Option Addr) (hp:0<xs.length->p=some ⟨g,0,none⟩) (A:Nat->Prop) (Eg:A Bs) (vg:A qb) (mG:0<xs.length->A g) (J Jx:List α->World->Prop)
  (hY:∀pre x W,J pre W->pre.length<xs.length->YieldAt F (n - 1) prog l (yW (G x)) W λe W'=>(Zr e (.bool true)/\J (pre++[x]) W'/\Kq A W W')\/(Zr e (.bool false)/\Jx (pre++[x]) W'))
  (W:World) (Eb:W.cell? ⟨Bs,0,none⟩=some (.pointer (some ⟨qb,c,none⟩))) (hq:W.cell? ⟨qb,c,none⟩=some (.slice p xs.length cap)) (hc:∀(k:Nat) (hk:k<xs.length),W.cell? ⟨g,k,none⟩=some (.pointer (some ⟨G xs[k],0,none⟩))) (h0:J [] W):
  CallsIn F n prog 232 #[.func (.yield l) #[] #[],Zp Bs] W λe W'=>(∃v,Zr e v)/\((∃ys,ys=xs/\J ys W')\/(∃pre,True/\Jx pre W')):=by
 obtain⟨N,AQ⟩:=Ze (xs.length);have HN:=aa AQ;rw[<-AQ] at hq hN;have HC:=aa hc;have M8:=aa hp;have HY:=aa hY;have HA:=aa mG;clear hc hp hY mG AQ;refine callsIn_of_wp func232 rfl hF ?_ qB;simp only[ntmps232,List.size_toArray,List.length_cons,List.length_nil,Nat.reduceAdd,Nat.reduceSub,Array.replicate_succ,Array.replicate_zero,List.push_toArray,List.append_toArray,List.nil_append,List.cons_append]
 gi_wp2
 gi_loopw [4,10] (λ_ i wr=>∃k:Nat,k<=N/\i=Zi (k:Int)/\Hid (J (xs.take k) wr)/\Hid (Kq A W wr)) (λ_ i _=>N - (RowKit.intOf i).toNat)
 case atStart=>exact⟨0,Nat.zero_le _,rfl,(show J (xs.take 0) W from by rw[List.take_zero];exact h0),λ_ _=>rfl⟩
 case round=>
  obtain⟨k,hk,rfl,HJ,HK⟩:=hrel;by_cases ah:k<N
  ·have dE:k<xs.length:=by have:=HN.j;omega
   have h1:(k:Int)<(N:Int):=Zo;have bf:0<=(k:Int)/\(k:Int)<(N:Int):=Zo;have iY:=Zf k Zo;obtain rfl:=M8.j Zo;have b0:wr.cell? ⟨g,k,none⟩=some (.pointer (some ⟨G xs[k],0,none⟩)):=(World.cell?_of_block (w:=W) (HK.j g (HA.j Zo))).trans (HC.j k dE)
   have Fh:Hid (xs.take (k+1)=xs.take k++[xs[k]]):=by
    show _=_;rw[List.take_succ_eq_append_getElem dE]
   have cX:Hid ((xs.take k).length<xs.length):=by
    show _<_;rw[List.length_take];omega
   generalize xs[k]=x at b0 Fh;obtain⟨fn,tmps,assign,body,hy,hR⟩:=HY.j _ x wr HJ.j cX.j;unfold yW at hy;have df:=aa hR;clear hR
   gi_wp2
   refine df.j.mono ?_;rintro e W3 (⟨rfl,D9,pS⟩|⟨rfl,D8⟩)
   ·have Nj:=aa D9;have qU:=aa (HK.j.trans pS);clear D9 pS
    gi_wp2
    go_roundw
    case rel=>exact⟨k+1,Zo,by go_num,(show J (xs.take (k+1)) W3 from by rw[Fh.j];exact Nj.j),qU⟩
    case measure=>exact Zm
   ·gi_wp2
    refine bodyPost_ret (results_none rfl _ _ _) rfl ?_;exact⟨⟨_,rfl⟩,.inr ⟨_,by first|exact D8|exact⟨trivial,D8⟩⟩⟩
  ·obtain rfl:k=N:=Zo;have h1:¬(k:Int)<(k:Int):=Zo
   gi_wp2
   go_end0;exact⟨⟨_,rfl⟩,.inl (by have:=HJ.j;rw[HN.j,List.take_length] at this;first|exact this|exact⟨_,rfl,this⟩)⟩
theorem adR (F:Fence) (n:Nat) (hF:F.fn 192) (qB:F.round=none) (qb c:Nat) (w:World):CallsIn F n prog 192 #[.pointer (some ⟨qb,c,none⟩)] w λe w'=>Zr e (.func (.func 232) #[] #[Zp w.heap.size])/\w'=w.alloc (.cells #[.pointer (some ⟨qb,c,none⟩)] 374):=by
 refine callsIn_of_wp func192 rfl hF ?_ qB;simp only[ntmps192,List.size_toArray,List.length_cons,List.length_nil,Nat.reduceAdd,Nat.reduceSub,Array.replicate_succ,Array.replicate_zero,List.push_toArray,List.append_toArray,List.nil_append,List.cons_append]
 gi_wp2
 go_ret;exact⟨rfl,rfl⟩
theorem adQ (F:Fence) (n:Nat) (hF:F.fn 232) (qB:F.round=none) (hn:1<=n) (Bs qb c g cap:Nat) {α:Type} (G:α->Nat) (xs:List α) (hN:xs.length<=1000000) (p:Option Addr) (hp:0<xs.length->p=some ⟨g,0,none⟩) (A:Nat->Prop) (Eg:A Bs) (vg:A qb) (mG:0<xs.length->A g) (w:World)
  (LM:Bs<w.heap.size) (yu:qb<w.heap.size) (fW:0<xs.length->g<w.heap.size) (Eb:w.cell? ⟨Bs,0,none⟩=some (.pointer (some ⟨qb,c,none⟩))) (hq:w.cell? ⟨qb,c,none⟩=some (.slice p xs.length cap)) (hc:∀(k:Nat) (hk:k<xs.length),w.cell? ⟨g,k,none⟩=some (.pointer (some ⟨G xs[k],0,none⟩))):
  SeqStopsK F n prog 232 #[Zp Bs] (λx=>yW (G x)) (Kq A) (λys=>ys=xs) (λ_=>True) xs.length w:=λl J Jx W hW _ _ hY h0=>
 adS F n hF qB hn l Bs qb c g cap G xs hN p hp A Eg vg mG J Jx hY W ((hW.cell (p:=⟨Bs,0,none⟩) LM).trans Eb) ((hW.cell (p:=⟨qb,c,none⟩) yu).trans hq) (λk hk=>(hW.cell (p:=⟨g,k,none⟩) (fW Zo)).trans (hc k hk)) h0
end
section
open Go.Shelf
attribute [local go_sem] Oper.semAt_some
variable {U V S:Nat->Prop} {w w2 w3 w4:World} {xb mp mw:Nat} {DP DW Bn Fs:DataW Value} {GP GW IP Fk:Int->Nat} {Q:Int->Value} {s:Bs}
def Gv (w:World) (s:Bs) (n:Int) (e:Ending) (w':World):Prop:=∃v,Zr e (.tuple #[v,Zi (ry s n)])/\ai cO w' w.heap.size 3 v (oP s n)/\Zq w w'
theorem VG (h:gS U w xb mp mw DP DW GP GW Q s) (n:Int) (hn:aj n) {i:Nat} (hi:pF s.ps n=some i):Zk 151 #[Zp xb,Zi n] w (Gv w s n):=by
 have e1:ry s n=0:=by unfold ry;rw[hi]
 have e2:oP s n=jS s n:=by unfold oP;rw[hi]
 have c0:=h.c0;have hk:=h.J2 hi hn;obtain⟨lN,rI,lh,As,hpL,Ar⟩:=h.place hi;have HX:=aa h;have Um:=aa As;have jw:Hid (ry s n=0/\oP s n=jS s n):=⟨e1,e2⟩
 have Kz:=h.qs _ Ar;rw[rI] at Kz;have Ug:=aa Kz;have qW:Hid (∀wv,Zq w wv->Zc wv (GP n) 2 (Q n)):=λwv ho=>(Qh (ae.keep ho As (λh=>h))).c2
 obtain⟨gp,DU⟩:=Ze (GP n);rw[<-DU] at hk Um qW;clear h hi rI lh As hpL Ar e1 e2 Kz DU hn;refine(callsIn_wide (n:=6)).1 ?_;have hf3:Fence.wide.fn 192:=trivial;refine callsIn_of_wp_marks func151 rfl trivial ?_ rfl;simp only[ntmps151,List.size_toArray,List.length_cons,List.length_nil,Nat.reduceAdd,Nat.reduceSub,Array.replicate_succ,Array.replicate_zero,List.push_toArray,List.append_toArray,List.nil_append,List.cons_append]
 gi_wp2
 refine(adR Fence.wide 5 trivial rfl gp _ _).m ?_;rintro e w4 ⟨rfl,eF⟩;have EO:=aa eF;clear eF
 gi_wp2
 obtain⟨lb,bq⟩:=Ze (w.heap.size);obtain⟨w2,aT⟩:=Ze (w.alloc (.cells #[.slice none 0 0] 196));have jD:w2.heap.size=w.heap.size+1:=by rw[aT];simp
 have aC:=Za aT;have cw:w2.heap[lb]?=some (.cells #[.slice none 0 0] 196 (0,0)):=by rw[aT,bq];exact heap_alloc_last w _
 have eF:=EO.j;rw[<-aT] at eF;rw[<-bq];have bL:=Za eF
 have ot:w4.heap[lb+1]?=some (.cells #[.pointer (some ⟨gp,2,none⟩)] 374 (0,0)):=by
  rw[eF,bq,<-jD];exact heap_alloc_last w2 _
 have AN:=ae.keep bL cw (λh=>h);have ho:=aC.trans bL;have tm:=HX.j.quiet ho;have GN:=Ug.j.kept ho (λ_ _ h=>h);have Lh:=ae.keep ho Um.j (λh=>h);have DN:(jS s n).length<=1000000:=Nat.le_trans (ac6 s n) HX.j.nl
 have gQ:∀x∈jS s n,∃e∈s.ws,e.dh=x:=λx Dm=>by
  obtain⟨e,he,h9,_⟩:=ac5 Dm;exact⟨e,he,h9⟩
 have AK:=qW.j w4 ho;obtain⟨rq,rc,Ak,_,_,mx⟩:=GN.form
 obtain⟨gb,mD⟩:∃gb,0<((jS s n).map GW).length->rq=some ⟨gb,0,none⟩/\(Q n).ownBlock=some gb:=by
  by_cases h0:0<((jS s n).map GW).length
  ·obtain⟨g,h1,_,_,h2⟩:=mx h0;exact⟨g,λ_=>⟨h1,h2⟩⟩
  ·exact⟨0,λh=>absurd h h0⟩
 obtain⟨xs,Af⟩:∃xs:List {x:Int//∃e∈s.ws,e.dh=x},xs=(jS s n).pmap (λx hx=>⟨x,hx⟩) gQ:=⟨_,rfl⟩
 have iz:xs.length=(jS s n).length:=by rw[Af,List.length_pmap]
 have iN:xs.map (·.1)=jS s n:=by rw[Af,List.map_pmap];simp
 have DT:∀(k:Nat) (hk:k<xs.length),w4.cell? ⟨gb,k,none⟩=some (.pointer (some ⟨GW xs[k].1,0,none⟩)):=λk hk=>by
  have dA:k<((jS s n).map GW).length:=by rw[List.length_map,<-iz];exact hk
  have h1:=GN;rw[Ak,(mD Zo).1] at h1;have h2:=ado (N:=((jS s n).map GW).length) (cap:=rc) h1 k dA;rw[h2,List.getElem_map]
  have h3:(jS s n)[k]'(by rw[<-iz];exact hk)=xs[k].1:=by
   have:(xs.map (·.1))[k]'(by rw[List.length_map];exact hk)=xs[k].1:=by rw[List.getElem_map]
   rw[<-this];congr 1;exact iN.symm
  rw[h3]
 have Dx:gp<w4.heap.size:=au Lh;have Al:0<xs.length->∃cur,w4.heap[gb]?=some (.cells cur 324 (0,0)):=λh0=>bu GN (mD (by rw[List.length_map,<-iz];exact h0)).2
 have Ai:=adQ Fence.wide 5 trivial rfl Zo (lb+1) gp 2 gb rc (λx:{x:Int//∃e∈s.ws,e.dh=x}=>GW x.1) xs Zo rq (λh0=>(mD (by rw[List.length_map,<-iz];exact h0)).1) (λb=>b=lb+1\/b=gp\/(0<xs.length/\b=gb)) (Or.inl rfl) (Or.inr (Or.inl rfl)) (λh0=>Or.inr (Or.inr ⟨h0,rfl⟩)) w4 (au ot) Dx (λh0=>by obtain⟨cur,hc⟩:=Al h0;exact au hc) (Zl ot) (by rw[AK,Ak,List.length_map,iz]) DT;have B8:qP w4 lb [] w4:=⟨ae.refl _ _,_,AN,ai.nil _ _ _ _⟩
 have Dv:∀x:{x:Int//∃e∈s.ws,e.dh=x},∃e∈s.ws,e.dh=x.1/\w4.heap[GW x.1]?=some (.cells (Bo e) 326 (0,0)):=λ⟨x,e,he,h9⟩=>⟨e,he,h9,by subst h9;exact tm.wb e he⟩
 have hB:∀b c t,w4.heap[b]?=some (.cells c t (0,0))->t≠196->b≠lb:=λb c t h1 h2=>cE h1 AN h2
 have cN:=aa B8;have EU:=aa Dv;have zn:=aa (⟨iz,iN,DN⟩:_/\_/\_);have kC:=aa hB;have kO:=aa ot;have A9:=aa Lh;have im:=aa Al;have E2:=aa (⟨ho,jD,eF,bL⟩:_/\_/\_/\_);have kB:=aa bq;clear B8 Dv iz iN DN hB ot tm Al ho jD eF bL aC cw AN aT AK Ak mx mD Af DT Dx gQ bq EO HX GN Lh Ug qW
 refine wpIn_rangeFunc_ownH (α:={x:Int//∃e∈s.ws,e.dh=x}) rfl Zo (gf:=232) (lb:=#[.pointer (some ⟨lb+1,0,none⟩)]) rfl trivial (enters_of func232 Zx rfl)
  Ai (fun {A B C} h k=>Kq.trans h k) ?hKb (Below.refl _ _) (λx=>rfl)
  (λ(pre:List {x:Int//∃e∈s.ws,e.dh=x}) W=>qP w4 lb (pre.map (λx=>x.1)) W) (λ_ _ _=>False)
  (by intro pre W W2 row hs hg hr;exact qP.grow hs hg hr) (λ_ _ _ _ _ h _ _=>h) cN.j
  (λx a2 W=>a2={tmps:=#[Zp xb,Zi n,undef,undef,.slice none 0 0,Zi 0,Zp gp,Zp lb,.pointer (some ⟨GW x.1,0,none⟩),Zp xb,Zp xb,Zp xb,.map (some mp),Zi n,Zp gp,Zp gp,.bool false,Zp gp,Zp gp,.pointer (some ⟨gp,2,none⟩),.func (.func 232) #[] #[.pointer (some ⟨lb+1,0,none⟩)],.pointer (some ⟨GW x.1,0,none⟩),undef,undef,undef,undef,undef,undef,undef,undef],defers:=[]}) (λx a2 _ _ _ _ hs _ _=>hs) ?assign ?body ?done ?stop
 case hKb=>
  intro W l o o2 hl _ _ _ b hb
  have cu:b≠l:=by
   rcases hb with rfl|rfl|⟨h0,rfl⟩
   ·have:=au kO.j;omega
   ·have:=au A9.j;omega
   ·obtain⟨cur,hc⟩:=im.j h0;have:=au hc;omega
  exact World.putObj_heap_other cu
 case assign=>
  rintro l pre x W K hi hK;unfold yW
  gi_wp2
  exact hK _ _ (KeepsFrom.refl _ _) (λ_ _=>rfl) hi rfl
 case body=>
  rintro l pre x a2 W hl hr hI rfl ah;obtain⟨e,he,oZ,tB⟩:=EU.j x;have An:W.heap[GW x.1]?=some (.cells (Bo e) 326 (0,0)):=ae.keep hI.on tB (kC.j _ _ _ tB Zd);have r0:=(NV An).c0;rw[oZ] at r0;have jm:=au An;obtain⟨q,m,c,v',W1,c0',aeh,aM,⟨y,hy⟩,hf,⟨q',m',c',rfl⟩,hQ,wI,mC⟩:=hI.push (by rw[List.length_map];have:=zn.j;omega) x.1
  have D7:Kq (λb=>b=lb+1\/b=gp\/(0<xs.length/\b=gb)) W (W1.setCell ⟨lb,0,none⟩ (.slice q' m' c')):=by
   have K7:∀(b:Nat) (c:Array Value) (t:TypeId),w4.heap[b]?=some (.cells c t (0,0))->t≠196->t≠3->(W1.setCell ⟨lb,0,none⟩ (.slice q' m' c')).heap[b]?=W.heap[b]?:=λb c t h1 h2 h3=>by
    have cu:=kC.j b c t h1 h2;exact wI b c t (ae.keep hI.on h1 cu) cu h3
   intro b hb;rcases hb with rfl|rfl|⟨h0,rfl⟩
   ·exact K7 _ _ _ kO.j Zd Zd
   ·exact K7 _ _ _ A9.j Zd Zd
   ·obtain⟨cur,hc⟩:=im.j h0;exact K7 _ _ _ hc Zd Zd
  have eO:Hid (KeepsFrom w4.heap.size W (W1.setCell ⟨lb,0,none⟩ (.slice q' m' c'))/\Kq (λb=>b=lb+1\/b=gp\/(0<xs.length/\b=gb)) W (W1.setCell ⟨lb,0,none⟩ (.slice q' m' c'))/\qP w4 lb (List.map (λx=>x.1) (pre++[x])) (W1.setCell ⟨lb,0,none⟩ (.slice q' m' c'))):=⟨mC,D7,by rw[List.map_append];exact hQ⟩
  obtain⟨x,GG⟩:=x;dsimp only at r0 aM jm;clear hI hQ wI mC D7 tB An oZ hr hl;generalize GW x=gx at r0 jm|-
  gi_wp2
  refine wpIn_region_any Zx ?_
  try (change wpAnyIn _ _ _ _ _ _ _ _ _ (World.drew _))
  refine wpAnyIn_ready (rs:=[0,1]) Zx (by simp) ?_;refine AllReadyIn.cons rfl (λK hK=>?_) ?_
  ·go_simp;refine hK _ _ ?_;refine wpAnyIn_ready (rs:=[1]) Zx (by simp) ?_;refine AllReadyIn.cons rfl (λK hK=>?_) ?_
   ·go_simp;refine hK _ _ ?_;refine wpAnyIn_ready (rs:=[2]) Zx (by simp) ?_;refine AllReadyIn.cons rfl (λK hK=>?_) ?_
    ·go_simp;refine hK _ _ ?_;refine wpAnyIn_ready (rs:=[3]) Zx (by simp) ?_;refine AllReadyIn.cons rfl (λK hK=>?_) ?_
     ·go_simp;refine hK _ _ ?_;refine wpAnyIn_ready (rs:=[4]) Zx (by simp) ?_;refine AllReadyIn.cons rfl (λK hK=>?_) ?_
      ·go_simp;refine hK _ _ ?_;refine wpAnyIn_ready (rs:=[5]) Zx (by simp) ?_;refine AllReadyIn.cons rfl (λK hK=>?_) ?_
       ·go_simp;refine hK _ _ ?_;refine wpAnyIn_ready (rs:=[6]) Zx (by simp) ?_;refine AllReadyIn.cons rfl (λK hK=>?_) ?_
        ·refine sg rfl (.tmp 22) (.tmp 27) 196 rfl (.slice q m c) (Zs W.heap.size 1 1) _ _ rfl rfl (aM _) ?_;refine hK _ _ ?_;refine wpAnyIn_ready (rs:=[7]) Zx (by simp) ?_;refine AllReadyIn.cons rfl (λK hK=>?_) ?_
         ·go_simp;refine hK _ _ ?_;refine wpAnyIn_done Zx ?_ _
          gi_wp2
          exact eO.j
         exact AllReadyIn.nil
        exact AllReadyIn.nil
       exact AllReadyIn.nil
      exact AllReadyIn.nil
     exact AllReadyIn.nil
    exact AllReadyIn.nil
   exact AllReadyIn.nil
  refine AllReadyIn.cons rfl (λK hK=>?_) ?_
  ·go_simp;refine hK _ _ ?_;refine wpAnyIn_ready (rs:=[0,2]) Zx (by simp) ?_;refine AllReadyIn.cons rfl (λK hK=>?_) ?_
   ·go_simp;refine hK _ _ ?_;refine wpAnyIn_ready (rs:=[2]) Zx (by simp) ?_;refine AllReadyIn.cons rfl (λK hK=>?_) ?_
    ·go_simp;refine hK _ _ ?_;refine wpAnyIn_ready (rs:=[3]) Zx (by simp) ?_;refine AllReadyIn.cons rfl (λK hK=>?_) ?_
     ·go_simp;refine hK _ _ ?_;refine wpAnyIn_ready (rs:=[4]) Zx (by simp) ?_;refine AllReadyIn.cons rfl (λK hK=>?_) ?_
      ·go_simp;refine hK _ _ ?_;refine wpAnyIn_ready (rs:=[5]) Zx (by simp) ?_;refine AllReadyIn.cons rfl (λK hK=>?_) ?_
       ·go_simp;refine hK _ _ ?_;refine wpAnyIn_ready (rs:=[6]) Zx (by simp) ?_;refine AllReadyIn.cons rfl (λK hK=>?_) ?_
        ·refine sg rfl (.tmp 22) (.tmp 27) 196 rfl (.slice q m c) (Zs W.heap.size 1 1) _ _ rfl rfl (aM _) ?_;refine hK _ _ ?_;refine wpAnyIn_ready (rs:=[7]) Zx (by simp) ?_;refine AllReadyIn.cons rfl (λK hK=>?_) ?_
         ·go_simp;refine hK _ _ ?_;refine wpAnyIn_done Zx ?_ _
          gi_wp2
          exact eO.j
         exact AllReadyIn.nil
        exact AllReadyIn.nil
       exact AllReadyIn.nil
      exact AllReadyIn.nil
     exact AllReadyIn.nil
    exact AllReadyIn.nil
   refine AllReadyIn.cons rfl (λK hK=>?_) ?_
   ·go_simp;refine hK _ _ ?_;refine wpAnyIn_ready (rs:=[0,3]) Zx (by simp) ?_;refine AllReadyIn.cons rfl (λK hK=>?_) ?_
    ·go_simp;refine hK _ _ ?_;refine wpAnyIn_ready (rs:=[3]) Zx (by simp) ?_;refine AllReadyIn.cons rfl (λK hK=>?_) ?_
     ·go_simp;refine hK _ _ ?_;refine wpAnyIn_ready (rs:=[4]) Zx (by simp) ?_;refine AllReadyIn.cons rfl (λK hK=>?_) ?_
      ·go_simp;refine hK _ _ ?_;refine wpAnyIn_ready (rs:=[5]) Zx (by simp) ?_;refine AllReadyIn.cons rfl (λK hK=>?_) ?_
       ·go_simp;refine hK _ _ ?_;refine wpAnyIn_ready (rs:=[6]) Zx (by simp) ?_;refine AllReadyIn.cons rfl (λK hK=>?_) ?_
        ·refine sg rfl (.tmp 22) (.tmp 27) 196 rfl (.slice q m c) (Zs W.heap.size 1 1) _ _ rfl rfl (aM _) ?_;refine hK _ _ ?_;refine wpAnyIn_ready (rs:=[7]) Zx (by simp) ?_;refine AllReadyIn.cons rfl (λK hK=>?_) ?_
         ·go_simp;refine hK _ _ ?_;refine wpAnyIn_done Zx ?_ _
          gi_wp2
          exact eO.j
         exact AllReadyIn.nil
        exact AllReadyIn.nil
       exact AllReadyIn.nil
      exact AllReadyIn.nil
     exact AllReadyIn.nil
    refine AllReadyIn.cons rfl (λK hK=>?_) ?_
    ·go_simp;refine hK _ _ ?_;refine wpAnyIn_ready (rs:=[0,4]) Zx (by simp) ?_;refine AllReadyIn.cons rfl (λK hK=>?_) ?_
     ·go_simp;refine hK _ _ ?_;refine wpAnyIn_ready (rs:=[4]) Zx (by simp) ?_;refine AllReadyIn.cons rfl (λK hK=>?_) ?_
      ·go_simp;refine hK _ _ ?_;refine wpAnyIn_ready (rs:=[5]) Zx (by simp) ?_;refine AllReadyIn.cons rfl (λK hK=>?_) ?_
       ·go_simp;refine hK _ _ ?_;refine wpAnyIn_ready (rs:=[6]) Zx (by simp) ?_;refine AllReadyIn.cons rfl (λK hK=>?_) ?_
        ·refine sg rfl (.tmp 22) (.tmp 27) 196 rfl (.slice q m c) (Zs W.heap.size 1 1) _ _ rfl rfl (aM _) ?_;refine hK _ _ ?_;refine wpAnyIn_ready (rs:=[7]) Zx (by simp) ?_;refine AllReadyIn.cons rfl (λK hK=>?_) ?_
         ·go_simp;refine hK _ _ ?_;refine wpAnyIn_done Zx ?_ _
          gi_wp2
          exact eO.j
         exact AllReadyIn.nil
        exact AllReadyIn.nil
       exact AllReadyIn.nil
      exact AllReadyIn.nil
     refine AllReadyIn.cons rfl (λK hK=>?_) ?_
     ·go_simp;refine hK _ _ ?_;refine wpAnyIn_ready (rs:=[0,5]) Zx (by simp) ?_;refine AllReadyIn.cons rfl (λK hK=>?_) ?_
      ·go_simp;refine hK _ _ ?_;refine wpAnyIn_ready (rs:=[5]) Zx (by simp) ?_;refine AllReadyIn.cons rfl (λK hK=>?_) ?_
       ·go_simp;refine hK _ _ ?_;refine wpAnyIn_ready (rs:=[6]) Zx (by simp) ?_;refine AllReadyIn.cons rfl (λK hK=>?_) ?_
        ·refine sg rfl (.tmp 22) (.tmp 27) 196 rfl (.slice q m c) (Zs W.heap.size 1 1) _ _ rfl rfl (aM _) ?_;refine hK _ _ ?_;refine wpAnyIn_ready (rs:=[7]) Zx (by simp) ?_;refine AllReadyIn.cons rfl (λK hK=>?_) ?_
         ·go_simp;refine hK _ _ ?_;refine wpAnyIn_done Zx ?_ _
          gi_wp2
          exact eO.j
         exact AllReadyIn.nil
        exact AllReadyIn.nil
       exact AllReadyIn.nil
      refine AllReadyIn.cons rfl (λK hK=>?_) ?_
      ·go_simp;refine hK _ _ ?_;refine wpAnyIn_ready (rs:=[0]) Zx (by simp) ?_;refine AllReadyIn.cons rfl (λK hK=>?_) ?_
       ·go_simp;refine hK _ _ ?_;refine wpAnyIn_ready (rs:=[6]) Zx (by simp) ?_;refine AllReadyIn.cons rfl (λK hK=>?_) ?_
        ·refine sg rfl (.tmp 22) (.tmp 27) 196 rfl (.slice q m c) (Zs W.heap.size 1 1) _ _ rfl rfl (aM _) ?_;refine hK _ _ ?_;refine wpAnyIn_ready (rs:=[7]) Zx (by simp) ?_;refine AllReadyIn.cons rfl (λK hK=>?_) ?_
         ·go_simp;refine hK _ _ ?_;refine wpAnyIn_done Zx ?_ _
          gi_wp2
          exact eO.j
         exact AllReadyIn.nil
        exact AllReadyIn.nil
       exact AllReadyIn.nil
      exact AllReadyIn.nil
     exact AllReadyIn.nil
    exact AllReadyIn.nil
   exact AllReadyIn.nil
  exact AllReadyIn.nil
 case done=>
  rintro D ys W hD rfl hI hK;obtain⟨v,hb,hv⟩:=hI.bx;have fM:W.cell? ⟨lb,0,none⟩=some v:=Zl hb;have h1:=hI.grow (grownBy_putObj' W D (.deferred none)) (λr e=>by cases e;exact⟨hD,_,hK,rfl⟩);obtain⟨v2,cw,aP⟩:=h1.bx
  have we:v2=v:=by
   have:=ae.keep (JM (grownBy_putObj' W D (.deferred none))) hb (λe=>by
    cases e;rw[hb] at hK
    cases hK)
   rw[cw] at this;simpa using this
  subst we;have hO:=ae.beyond E2.j.1 h1.on (λk e=>by rw[e,kB.j];exact Nat.le_refl _);have aR:=E2.j.1.size
  have HF:Hid (Gv w s n (.returned (.tuple #[v2,Zi 0])) (W.putObj D (.deferred none))):=by
   have bB:=aP;rw[zn.j.2.1] at bB;refine⟨v2,by rw[jw.j.1],?_,hO⟩;rw[jw.j.2];refine⟨bB.1,?_⟩;rcases bB.2 with h6|⟨g,c,cur,e,oq,r⟩
   ·exact Or.inl h6
   ·exact Or.inr ⟨g,c,cur,e,Zo,r⟩
  clear hv aP hb cw h1 hI hO
  gi_wp2
  refine⟨by simp,.inl ⟨_,_,rfl,run_takeDeferred hK,?_⟩⟩;refine⟨.tuple #[v2,Zi 0],by simp[results,results151,go_sem],HF.j⟩
 case stop=>
  rintro D c pre W _ _ h _;exact h.elim
theorem VH (h:qO U w xb s) (n:Int) (hn:aj n):Zk 151 #[Zp xb,Zi n] w (Gv w s n):=by
 obtain⟨hb,mp,mw,DP,DW,GP,GW,Q,h⟩:=h
 cases hi:pF s.ps n with
 |some i=>exact VG h n hn hi
 |none=>
  have c0:=h.c0;have hk:=h.J3 hi hn;have e1:ry s n=6:=by unfold ry;rw[hi]
  have e2:oP s n=[]:=by unfold oP;rw[hi]
  have fA:Hid (Gv w s n (.returned (.tuple #[.slice none 0 0,Zi 6])) w):=⟨_,by rw[e1],by rw[e2];exact ai.nil _ _ _ _,ae.refl _ _⟩
  clear h hb hi hn e1 e2;go_enter func151,ntmps151;go_wp2_with fail
  all_goals
   go_ret2;exact fA.j
end
section
variable {U V S:Nat->Prop} {w w2 w3:World} {xb pb mb gb r N cM jJ:Nat} {P:Int} {D D2:DataW Value} {os rs kW kT:Lp}
end
section
variable {U V S:Nat->Prop} {w w2 w3:World} {xb pb mb gb r N cM jJ:Nat} {P:Int} {D D2:DataW Value} {os rs kW kT:Lp}
def ahl (k o c:Int):Int:=if k<1\/8<k then 12 else if o<0\/8<o\/(k≠1/\o≠0)\/c<1\/64<c then 1 else 0
def aho (os rs:Lp) (n:Int):Int×Int:=match jP rs n with|none=>(0,6)|some i=>(if Dg os rs n=true then (rs.getD i (0,0)).2 else 0,0)
end
section
variable {U V S:Nat->Prop} {w w2 w3 wr wx:World} {xb pb mb gb r N cM jJ B L c:Nat} {P a n:Int} {D D2:DataW Value} {os rs kW kT:Lp} {ls:List Int}
def gO (k:Int) (os:Lp) (l:List Int):Lp:=if k=1 then os else os++l.map (λy=>(k,y))
def gG (k:Int) (rs:Lp) (l:List Int):Lp:=if k=1 then rs++l.map (λy=>(y,0)) else rs
structure GvX (U:Nat->Prop) (w:World) (xb mb gb N B L c:Nat) (a n:Int) (os rs:Lp) (ls:List Int) (wr:World):Prop where
 x:∃D,cA (λk=>U k\/k=L\/k=B) wr xb mb gb D N os rs
 l:ai cO wr w.heap.size 3 (Zs L c c) ls
 b:ai aJ wr 0 304 (Zs B 1 1) [(a,n)]
 on:Zn U w wr
 lb:w.heap.size<=L
 lc:ls.length=c
end
section
variable {U V S:Nat->Prop} {w w2 w3 wr wx:World} {xb pb mb gb r N cM jJ B L c:Nat} {P a n:Int} {D D2:DataW Value} {os rs kW kT:Lp} {ls:List Int}
def GvQ (U:Nat->Prop) (w:World) (xb:Nat) (P:Int) (os rs:Lp) (num kind order many:Int) (e:Ending) (w':World):Prop:=∃v,Zr e (.tuple #[v,Zi (Hm os rs num kind order many)])/\ai cO w' w.heap.size 3 v (SR os rs num kind order many)/\nL (λk=>U k\/v.ownBlock=some k) w' xb P (SS os rs num kind order many) (SU os rs num kind order many)/\Zn U w w'
end
section
variable {U V S:Nat->Prop} {w w2 w3 wr wx:World} {xb pb mb gb r N cM jJ B L c:Nat} {P a n:Int} {D D2:DataW Value} {os rs kW kT:Lp} {ls:List Int}
def RgA (w:World) (A M:Int) (B:Nat) (wx:World):Prop:=Zq w wx/\w.heap.size<=B/\ai aJ wx 0 304 (Zs B 1 1) [(A,M)]
end
section
variable {U V S:Nat->Prop} {w w2 w3 wr wx:World} {xb pb mb gb r N cM jJ B L c:Nat} {P a n:Int} {D D2:DataW Value} {os rs kW kT:Lp} {ls:List Int}
end
end Go.Proofs.YtphkconoooeidaaGreatDoor
namespace Go.Vx
theorem aey {W w':World} {q:Nat} (h:Zq W w') (hd:w'.drawn=W.drawn+q):∃JL,w'=Go.Sort.grow (W.drewN q) JL:=by
 refine⟨w'.heap.extract W.heap.size w'.heap.size,?_⟩
 have hh:w'.heap=W.heap++w'.heap.extract W.heap.size w'.heap.size:=by
  apply Array.ext_getElem?;intro k;by_cases hk:k<W.heap.size
  ·rw[h.block k hk (λh=>h),Array.getElem?_append_left hk]
  ·rw[Array.getElem?_append_right Zo];by_cases dA:k<w'.heap.size
   ·rw[Array.getElem?_extract,if_pos Zo];congr 1;omega
   ·rw[Array.getElem?_eq_none Zo,Array.getElem?_eq_none (by rw[Array.size_extract];omega)]
 have h1:=h.os;have h2:=h.tape;have h3:=h.output;obtain⟨hp,tp,dr,o,ou⟩:=w';simp only at hh h1 h2 h3 hd;unfold Go.Sort.grow World.drewN;rw[<-hh,h1,h2,h3,hd]
end Go.Vx
namespace Go.Proofs.YtphkconoooeidaaGreatDoor
section
variable {U V S:Nat->Prop} {w w2 w3 wr wx:World} {xb pb mb gb r N cM jJ B L c:Nat} {P a n:Int} {D D2:DataW Value} {os rs kW kT:Lp} {ls:List Int}
def cI (a b:Int):Int:=if a<b then -1 else if b<a then 1 else 0
theorem PQ (a:Int) (w:World):Zk 185 #[Zi a] w λe w'=>Zr e (.bool false)/\w'=w:=by
 go_enter func185,ntmps185;go_wp2_with fail
 all_goals
  go_ret;exact⟨by first|rfl|simp,rfl⟩
theorem aa8 (a b:Int) (w:World):Zk 138 #[Zi a,Zi b] w λe w'=>Zr e (Zi (cI a b))/\w'=w:=by
 have HA:=aa (λwv=>PQ a wv);have HB:=aa (λwv=>PQ b wv);by_cases h1:a<b
 ·have HE:Hid (cI a b= -1):=if_pos h1;rw[HE.j];clear HE;go_enter func138,ntmps138;go_wp2_with fail;refine(HA.j _).e1 ?_;go_wp2_with fail;refine(HB.j _).e1 ?_;go_wp2_with fail
  all_goals
   go_ret;exact⟨rfl,rfl⟩
 ·by_cases h2:b<a
  ·have HE:Hid (cI a b=1):=by show _=_;unfold cI;rw[if_neg h1,if_pos h2]
   rw[HE.j];clear HE;go_enter func138,ntmps138;go_wp2_with fail;refine(HA.j _).e1 ?_;go_wp2_with fail;refine(HB.j _).e1 ?_;go_wp2_with fail
   all_goals
    go_ret;exact⟨rfl,rfl⟩
  ·have HE:Hid (cI a b=0):=by show _=_;unfold cI;rw[if_neg h1,if_neg h2]
   rw[HE.j];clear HE;go_enter func138,ntmps138;go_wp2_with fail;refine(HA.j _).e1 ?_;go_wp2_with fail;refine(HB.j _).e1 ?_;go_wp2_with fail
   all_goals
    go_ret;exact⟨rfl,rfl⟩
def ta (a b:Int):Int:=if a=0 then b else a
theorem ZX (L:Nat) (a b:Int) (w:World) (h0:w.cell? ⟨L,0,none⟩=some (Zi a)) (h1:w.cell? ⟨L,1,none⟩=some (Zi b)):Zk 137 #[Zs L 2 2] w λe w'=>Zr e (Zi (ta a b))/\w'=w:=by
 go_enter func137,ntmps137;go_wp2_with fail
 go_loopw [5,8] (λ_ d wr=>∃k:Nat,d=Zi (k:Int)/\k<=2/\Hid ((1<=k->a=0)/\(2<=k->b=0))/\wr=w) (λ_ d _=>2 - (RowKit.intOf d).toNat)
 case atStart=>exact⟨0,rfl,Zo,⟨λh=>Zo,λh=>Zo⟩,rfl⟩
 case round=>
  obtain⟨k,rfl,hk,HK,rfl⟩:=hrel;rcases(by omega:k=0\/k=1\/k=2) with rfl|rfl|rfl
  ·by_cases ha:a=0
   ·subst ha;go_wp2_with fail;go_roundw
    case rel=>exact⟨1,by go_num,Zo,⟨λ_=>by first|rfl|trivial,λh=>Zo⟩,by first|rfl|trivial⟩
    case measure=>exact Zm
   ·have HE:Hid (ta a b=a):=if_neg ha;have e1:(a==0)=false:=beq_eq_false_iff_ne.2 ha;go_wp2_with fail
    all_goals
     go_ret;exact⟨by rw[HE.j];try rfl,rfl⟩
  ·have HE:Hid (ta a b=b):=if_pos (HK.j.1 Zo);by_cases hb:b=0
   ·subst hb;have HA:=aa (HK.j.1 Zo);go_wp2_with fail;go_roundw
    case rel=>exact⟨2,by go_num,Zo,⟨λ_=>HA.j,λ_=>by first|rfl|trivial⟩,by first|rfl|trivial⟩
    case measure=>exact Zm
   ·have e1:(b==0)=false:=beq_eq_false_iff_ne.2 hb;go_wp2_with fail
    all_goals
     go_ret;exact⟨by rw[HE.j];try rfl,rfl⟩
  ·have HE:Hid (ta a b=0):=by show _=_;rw[HK.j.2 Zo];exact if_pos (HK.j.1 Zo)
   go_wp2_with fail
   all_goals
    go_ret;exact⟨by rw[HE.j];try rfl,rfl⟩
def yS (x y:Int×Int):Int:=ta (cI x.1 y.1) (cI x.2 y.2)
theorem aa9 (x y:Int×Int) (W:World):Zk 136 #[.agg #[Zi x.1,Zi x.2],.agg #[Zi y.1,Zi y.2]] W λe w'=>Zr e (Zi (yS x y))/\∃q JL,w'=Go.Sort.grow (W.drewN q) JL:=by
 obtain⟨x1,x2⟩:=x;obtain⟨y1,y2⟩:=y;dsimp only;have HC:=aa (λa b wv=>aa8 a b wv);have HQ:Hid (yS (x1,x2) (y1,y2)=ta (cI x1 y1) (cI x2 y2)):=rfl;rw[HQ.j];clear HQ;obtain⟨w2,aT,aC,bH⟩:=laid_two W (Zi x1) (Zi x2) (Zi y1) (Zi y2) 85 85;have yE:w2.drawn=W.drawn:=by rw[aT];rfl
 have aL:=aa (⟨aC,yE⟩:_/\_);obtain⟨A,hA⟩:=Ze (W.heap.size);obtain⟨B,hB⟩:=Ze (W.heap.size+1);rw[<-hA] at bH;have lp:A+1=B:=Zo;rw[lp] at bH;have ar:Hid (∀wv,Zq w2 wv->Zc wv A 0 (Zi x1)/\Zc wv A 1 (Zi x2)/\Zc wv B 0 (Zi y1)/\Zc wv B 1 (Zi y2)):=λwv h=>⟨(bH wv h).1.1,(bH wv h).1.2,(bH wv h).2.1,(bH wv h).2.2⟩
 have tV:Hid (∀(wv:World) (L:Nat),Zc wv L 0 (Zi (cI x1 y1))->Zc wv L 1 (Zi (cI x2 y2))->Zk 137 #[Zs L 2 2] wv λe w'=>Zr e (Zi (ta (cI x1 y1) (cI x2 y2)))/\w'=wv):=λwv L h0 h1=>ZX L (cI x1 y1) (cI x2 y2) wv h0 h1
 generalize ta (cI x1 y1) (cI x2 y2)=oc at tV|-;clear aC yE bH lp;have af:=aa (ar.j _ ((ae.refl _ w2).drew));have ak:=aa (ar.j ((w2.alloc (.cells #[Zi (cI x1 y1),Zi (cI x2 y2)] 3)).drew) (((ae.refl _ w2).alloc _).drew));have HN:=xF (w:=w2.alloc (.cells #[Zi (cI x1 y1),Zi (cI x2 y2)] 3)) (heap_alloc_last w2 _);have agd:=aa (tV.j ((w2.alloc (.cells #[Zi (cI x1 y1),Zi (cI x2 y2)] 3)).drew) w2.heap.size HN.1.1 HN.1.2);clear HN tV;go_enter func136,ntmps136;go_upto_region 1 with fail
 rw[<-aT,<-hB,<-hA];clear aT hA hB;go_region_held3 (λwv=>Zc wv A 0 (Zi x1)/\Zc wv A 1 (Zi x2)/\Zc wv B 0 (Zi y1)/\Zc wv B 1 (Zi y2)) (with_reducible (first|exact af.j|exact ak.j)) (first|(go_at_call 138;refine(HC.j _ _ _).m ?_;rintro e w' ⟨rfl,h⟩;have h2:=h.symm;clear h;subst h2)|(go_at_call 137;refine agd.j.m ?_;rintro e w' ⟨rfl,h⟩;have h2:=h.symm;clear h;subst h2));go_wp2_with fail
 all_goals
  go_ret;exact⟨rfl,1,aey ((aL.j.1.alloc _).drew) (by show w2.drawn+1=_;rw[aL.j.2])⟩
end
section
open Go.Sort Go.Shelf
variable {U V S:Nat->Prop} {w w2 w3 wr wx:World}
theorem S6 (d:Array (Int×Int)):flatK iW 2 d=(fl aJ d.toList).toArray:=by
 apply Array.ext_getElem?;intro t;by_cases h:t<d.size*2
 ·have h1:t/2<d.toList.length:=by rw[Array.length_toList];omega
  have h2:=vh aJ d.toList (t/2) (t % 2) h1 (Nat.mod_lt _ Zd);have e:t/2*aJ.sz+t % 2=t:=by show t/2*2+t % 2=t;omega
  rw[e] at h2;have h3:=get_flatK iW 2 d t h;have h4:t<(flatK iW 2 d).size:=by rw[size_flatK];exact h
  rw[getElem!_pos _ t h4,getElem!_pos d (t/2) (by rw[Array.length_toList] at h1;exact h1)] at h3;rw[Array.getElem?_eq_getElem h4,h3,List.getElem?_toArray,h2,Array.getElem_toList];generalize d[t/2]'(by rw[Array.length_toList] at h1;exact h1)=z;rcases(by omega:t % 2=0\/t % 2=1) with hm|hm<;>rw[hm]<;>rfl
 ·rw[Array.getElem?_eq_none (by rw[size_flatK];omega),List.getElem?_toArray,List.getElem?_eq_none (by rw[j8,Array.length_toList];show d.size*2<=t;omega)]
theorem Qa (x y:Int×Int):ltOf yS x y=true↔mm x y:=by
 unfold ltOf yS mm;rw[decide_eq_true_iff];by_cases h1:x.1<y.1
 ·have e1:cI x.1 y.1= -1:=if_pos h1;have e2:∀b,ta (-1) b= -1:=λb=>if_neg Zd
  rw[e1,e2];omega
 ·by_cases h2:y.1<x.1
  ·have e1:cI x.1 y.1=1:=by unfold cI;rw[if_neg h1,if_pos h2]
   have e2:∀b,ta 1 b=1:=λb=>if_neg Zd
   rw[e1,e2];omega
  ·have e1:cI x.1 y.1=0:=by unfold cI;rw[if_neg h1,if_neg h2]
   have e2:∀b,ta 0 b=b:=λb=>if_pos rfl
   rw[e1,e2];unfold cI
   split
   ·omega
   ·split<;>omega
theorem JZ (x y:Int×Int):ltOf yS x y=false↔¬mm x y:=by
 rw[<-Qa];simp
theorem W5:SWO (ltOf yS) where
 irrefl x:=by rw[JZ];unfold mm;omega
 trans x y z h1 h2:=by rw[Qa] at*;unfold mm at*;omega
 ntrans x y z h1 h2:=by rw[JZ] at*;unfold mm at*;omega
theorem adt (w:World):(isAgg 85).run prog w=.ok true w:=Zx
theorem XB (w:World):(Go.sizeOf 85).run prog w=.ok 2 w:=Zx
theorem af4 (eR off size:Nat) (w:World):CmpLays prog 136 #[] iW 2 yS eR off size w:=
 λ_ _ _ _ x y=>aa9 x y _
theorem ZG (F cur:Array Value) (h:F.size<=cur.size):(putCells id 0 F cur).toList.take F.size=F.toList/\(putCells id 0 F cur).size=cur.size:=by
 have hs:(putCells id 0 F cur).size=cur.size:=by unfold putCells;simp
 refine⟨?_,hs⟩;apply List.ext_getElem?;intro k;rw[List.getElem?_take];by_cases hk:k<F.size
 ·rw[if_pos hk,Array.getElem?_toList,Array.getElem?_toList];unfold putCells;rw[Array.getElem?_mapIdx,Array.getElem?_eq_getElem Zo,Option.map_some,if_pos Zo,Nat.sub_zero,getElem!_pos F k hk,Array.getElem?_eq_getElem hk];rfl
 ·rw[if_neg hk,Array.getElem?_toList,Array.getElem?_eq_none Zo]
theorem aer (w:World) (eR m:Nat) (F cur:Array Value) (T:TypeId) (os:Array Obj) (h:w.heap[eR]?=some (.cells cur T (0,0))):
  (grow (putRow id (Go.Sort.ahead w m) eR 0 F) os).heap[eR]?=some (.cells (putCells id 0 F cur) T (0,0))/\ae (λk=>k=eR) w (grow (putRow id (Go.Sort.ahead w m) eR 0 F) os):=by
 have hb:=au h;have hs:(putRow id (Go.Sort.ahead w m) eR 0 F).heap.size=w.heap.size:=by unfold putRow mapBlock;simp[Go.Sort.ahead]
 have hg:∀k,k<w.heap.size->(grow (putRow id (Go.Sort.ahead w m) eR 0 F) os).heap[k]?=(putRow id (Go.Sort.ahead w m) eR 0 F).heap[k]?:=λk hk=>by
  show((putRow id (Go.Sort.ahead w m) eR 0 F).heap++os)[k]?=_;rw[Array.getElem?_append_left Zo]
 have hm:∀k,(putRow id (Go.Sort.ahead w m) eR 0 F).heap[k]?=if eR=k then (w.heap[k]?).map (onCells (putCells id 0 F)) else w.heap[k]?:=λk=>by
  show(w.heap.modify eR (onCells (putCells id 0 F)))[k]?=_;rw[Array.getElem?_modify]
 constructor
 ·rw[hg eR hb,hm,if_pos rfl,h];rfl
 ·refine⟨rfl,rfl,rfl,?_,λk hk hn=>?_⟩
  ·show w.heap.size<=((putRow id (Go.Sort.ahead w m) eR 0 F).heap++os).size;rw[Array.size_append];omega
  ·rw[hg k hk,hm,if_neg (λe=>hn e.symm)]
theorem Xu {base:Nat} {v:Value} {xs:Lp} (h:ai aJ w base 85 v xs) (hl:xs.length<=10000):Zk 135 #[v,.func (.func 136) #[] #[]] w λe w'=>Zr e (.tuple #[])/\∃kP,ai aJ w' base 85 v kP/\kP.Perm xs/\kP.Pairwise kY/\ae (λk=>v.ownBlock=some k) w w':=by
 have jF:=h;rcases h.2 with⟨rfl,h0⟩|⟨g,cap,cur,rfl,hb,hg,oa,jo,du,Ds⟩
 ·obtain rfl:xs=[]:=List.length_eq_zero_iff.1 h0;have:=AnyF.slices_SortFunc_none sortOb none 0 (.func (.func 136) #[] #[]) w;change Zk 135 _ _ _ at this;refine this.m ?_;rintro e w' ⟨rfl,rfl⟩;exact⟨rfl,[],jF,List.Perm.refl _,List.Pairwise.nil,ae.refl _ _⟩
 ·have eg:∀args w,(callFunc 136 args).run prog w=.ok (.enter 136 args) w:=enters_of func136 Zx rfl
  have hH:HoldsK iW 2 w g 0 xs.toArray:=by
   intro j hj;rw[S6] at hj|-;have fi:j<(fl aJ xs).length:=by simpa using hj
   refine⟨?_,jF.fz _⟩;rw[getElem!_pos _ j hj];have h5:=(World.ownsRow.cells jF (g:=g) rfl) j (fl aJ xs)[j] (List.getElem?_eq_getElem fi);rw[pY] at h5;rw[h5];simp
  have Lu:=AnyQ.slices_SortFunc sortOb 2 adt XB iW (λ_=>rfl) (λx u hu=>aJ.one x u hu) yS W5 136 #[] g 0 cap xs.toArray w eg (af4 g 0 xs.toArray.size w) hH (au hg) (by simp;omega);change Zk 135 _ _ _ at Lu;have e1:xs.toArray.size=xs.length:=by simp
  rw[e1] at Lu;refine Lu.m ?_;rintro e w' ⟨rfl,d',m,os,hp,hs,rfl⟩;obtain⟨rI,lh,As⟩:=hp;have hd:d'.size=xs.length:=by rw[rI];simp
  obtain⟨hh,ay⟩:=aer w g m (flatK iW 2 d') cur 85 os hg;have hF:(flatK iW 2 d').size=xs.length*2:=by rw[size_flatK,hd]
  have aR:aJ.sz=2:=rfl;obtain⟨Dt,wo⟩:=ZG (flatK iW 2 d') cur (by rw[hF,du,aR];exact Nat.mul_le_mul_right _ oa);refine⟨rfl,d'.toList,?_,?_,?_,ay.mono (λk _ hk=>by rw[hk];rfl)⟩
  ·refine⟨by rw[j8],Or.inr ⟨g,cap,_,by rw[show d'.toList.length=xs.length by rw[Array.length_toList,hd]],hb,hh,by rw[Array.length_toList,hd];exact oa,jo,by rw[wo];exact du,?_⟩⟩;rw[Array.length_toList,hd,aR,<-hF,Dt,S6]
  ·have e2:d'.extract 0 xs.length=d':=by rw[<-hd];exact Array.extract_size
   have e3:xs.toArray.extract 0 xs.length=xs.toArray:=by rw[<-e1];exact Array.extract_size
   rw[e2,e3] at As;simpa using As
  ·rw[List.pairwise_iff_getElem];intro i j hi hj lj;rw[Array.length_toList] at hi hj;have h9:=hs i j (Nat.zero_le _) lj Zo;rw[getElem!_pos d' i hi,getElem!_pos d' j hj,JZ] at h9;unfold kY;simpa using h9
end
section
variable {U V S:Nat->Prop} {w w1 w2 w3 wr wx:World} {xb pb mb gb r N cM jJ B L c:Nat} {P a n:Int} {D D2:DataW Value} {os rs kW kT:Lp} {left ye:Lit->Bool}
theorem cA.beside {v:Value} {xs:Lp} (h:cA U wr xb mb gb D N os rs) (hg:gb<w.heap.size) (hx:xb<w.heap.size) (hm:mb<w.heap.size) (hu:∀k,U k->k<w.heap.size) (hl:ai aJ wr w.heap.size 85 v xs) (ho:ae (λk=>v.ownBlock=some k) wr wx):cA U wx xb mb gb D N os rs:=by
 have hk:∀k,v.ownBlock=some k->w.heap.size<=k:=λk hk=>(cH hl hk).1
 exact h.aside ho (λe=>by have:=hk _ e;omega) (λe=>by have:=hk _ e;omega) (λe=>by have:=hk _ e;omega) h.ux h.um h.ug (λk dA=>Nat.lt_of_lt_of_le (h.low k dA) ho.size)
structure xh (U:Nat->Prop) (w:World) (xb mb gb r:Nat) (D:DataW Value) (N:Nat) (os rs:Lp) (v:Value) (l:List Int) (left:Lit->Bool) (cM:Nat) (wr:World):Prop where
 rg:wr.ranges prog 3 RI mb r rs.length D left cM
 xq:cA U wr xb mb gb D N os rs
 hr:w.heap.size<=r
 ml:mM 85 w v (l.map (λx=>((1:Int),x))) wr
 nd:l.Nodup
 mem:∀x,x∈l↔x∈rs.map (·.1)/\left (.int .i64 x)=false
theorem xh.next {v:Value} {l:List Int} (h:xh U w xb mb gb r D N os rs v l left cM wr) {x:Int} (hr:wx.ranges prog 3 RI mb r rs.length D (uC left x) jJ) (hg:wr.grownBy wx (some r)):wx.ranges prog 3 RI mb r rs.length D (uC left x) jJ/\cA U wx xb mb gb D N os rs/\mM 85 w v (l.map (λx=>((1:Int),x))) wx:=by
 have ho:=Gk hg;obtain⟨cur,hc⟩:=bu h.xq.pg (k:=gb) rfl;refine⟨hr,h.xq.aside ho (λe=>BE h.rg h.xq.x e.symm) (λe=>h.rg.ne e.symm) (λe=>BE h.rg hc e.symm) h.xq.ux h.xq.um h.xq.ug (λk hk=>Nat.lt_of_lt_of_le (h.xq.low k hk) ho.size),⟨ae.JR h.ml.on ho h.hr,h.ml.own.kept ho (λj hj e=>?_)⟩⟩;obtain⟨lx,bH⟩:=bu h.ml.own hj;exact BE h.rg bH e.symm
theorem xh.push {v v':Value} {l:List Int} {x:Int} {w5:World} (h:xh U w xb mb gb r D N os rs v l left cM wr) (iz:xb<w.heap.size/\mb<w.heap.size/\gb<w.heap.size/\∀k,U k->k<w.heap.size)
  (hx:x∈rs.map (·.1)) (hlx:left (.int .i64 x)=true)
  (h3:wx.ranges prog 3 RI mb r rs.length D (uC left x) jJ) (h4:cA U wx xb mb gb D N os rs) (h5:mM 85 w v (l.map (λx=>((1:Int),x))) wx)
  (h6:ai aJ w5 w.heap.size 85 v' (l.map (λx=>((1:Int),x))++[((1:Int),x)])) (h7:ae (λk=>v.ownBlock=some k) wx w5):xh U w xb mb gb r D N os rs v' (l++[x]) (uC left x) jJ w5:=by
 have hmp:(l++[x]).map (λx=>((1:Int),x))=l.map (λx=>((1:Int),x))++[((1:Int),x)]:=by simp
 have DK:¬(v.ownBlock=some r):=λe=>by
  obtain⟨lx,bH⟩:=bu h5.own e;exact BE h3 bH rfl
 have nB:¬(v.ownBlock=some mb):=λe=>by have:=(cH h5.own e).1;omega
 refine⟨PY h3 h7 nB DK,h4.beside iz.2.2.1 iz.1 iz.2.1 iz.2.2.2 h5.own h7,h.hr,by rw[hmp];exact h5.push h6 h7,?_,λy=>?_⟩
 ·rw[List.nodup_append];refine⟨h.nd,by simp,λa ha b hb=>?_⟩;rw[List.mem_singleton] at hb;rw[hb];rintro rfl;have:=((h.mem a).1 ha).2;rw[hlx] at this;cases this
 ·rw[List.mem_append,List.mem_singleton,h.mem y,I9];by_cases he:y=x
  ·subst he;simp[hx]
  ·have:decide (y=x)=false:=decide_eq_false he;rw[this];simp[he]
theorem xh.all {v:Value} {l:List Int} (h:xh U w xb mb gb r D N os rs v l left cM wr) (hn:(rs.map (·.1)).Nodup) (hl:∀kl,left kl=false):l.Perm (rs.map (·.1)):=
 (List.perm_ext_iff_of_nodup h.nd hn).2 λx=>by rw[h.mem x];exact⟨λh=>h.1,λh=>⟨h,hl _⟩⟩
theorem Yo (hw:fk (N:Int) os rs):((fC N os).filter (λo=>decide (o.1≠0))).Perm os:=by
 have eH:os.Nodup:=(List.pairwise_map.1 hw.on).imp (λh e=>h (by rw[e]))
 have nF:∀o,o∈(fC N os).filter (λo=>decide (o.1≠0))↔o∈os:=λo=>by
  rw[List.mem_filter];constructor
  ·rintro⟨h1,h2⟩;obtain⟨k,hk,rfl⟩:=List.getElem_of_mem h1;rw[uF] at h2|-;obtain⟨x,hx,he⟩:=(CX hw _).1 (of_decide_eq_true h2);rw[<-he,xO hw.on hx];exact hx
  ·intro ho;have hb:=hw.ok o ho;have hk:o.2.toNat<(fC N os).length:=by rw[uE];omega
   have h1:(fC N os)[o.2.toNat]=o:=by
    rw[uF];have e:((o.2.toNat:Nat):Int)=o.2:=Zo;rw[e];exact xO hw.on ho
   exact⟨by rw[<-h1];exact List.getElem_mem hk,decide_eq_true Zo⟩
 refine(List.perm_ext_iff_of_nodup ?_ eH).2 nF;rw[List.nodup_iff_pairwise_ne,List.pairwise_filter,List.pairwise_iff_getElem];intro i j hi hj lj h1 h2 he;rw[uF] at h1 h2;rw[uF,uF] at he;obtain⟨x,hx,QT⟩:=(CX hw _).1 (of_decide_eq_true h1);obtain⟨y,hy,hye⟩:=(CX hw _).1 (of_decide_eq_true h2);have e1:=xO hw.on hx;have e2:=xO hw.on hy;rw[QT] at e1;rw[hye] at e2;rw[e1,e2] at he;rw[he] at QT;omega
theorem aa5 (os:Lp) (k:Nat) (hk:k<N):((fC N os).take (k+1)).filter (λo=>decide (o.1≠0))=((fC N os).take k).filter (λo=>decide (o.1≠0))++(if (gz os (k:Int)).1=0 then [] else [gz os (k:Int)]):=by
 have hl:k<(fC N os).length:=by rw[uE];exact hk
 rw[List.take_succ_eq_append_getElem hl,List.filter_append,uF];congr 1;by_cases h:(gz os (k:Int)).1=0
 ·rw[if_pos h];simp[h]
 ·rw[if_neg h];simp[h]
end
section
variable {U V S:Nat->Prop} {w w1 w2 w3 wr wx:World} {xb pb mb gb r N cM jJ B L c:Nat} {P a n:Int} {D D2:DataW Value} {os rs kW kT:Lp} {left ye:Lit->Bool}
theorem Vu (h:nL U w xb P os rs):Zk 73 #[Zp xb] w λe w'=>∃v,Zr e v/\∃ls,ai aJ w' w.heap.size 85 v ls/\ls.Perm (fE os rs)/\ls.Pairwise kY/\Zq w w':=by
 obtain⟨hw,mb,gb,D,N,rfl,hx⟩:=h;have hN:N<=256:=by have:=hw.p;omega
 have Uu:=aa hw.lr;have EU:=aa hw.rn;have Iv:=aa hw.ri;have HRP:=aa (Yo hw);have eM:Hid (xb<w.heap.size/\mb<w.heap.size/\gb<w.heap.size/\∀k,U k->k<w.heap.size):=⟨au hx.x,hx.m.lt,hx.gl,hx.low⟩
 have HX:=aa hx;have c0:=hx.c0
 have HNL:Hid (∀l:List Int,(∀x∈l,x∈rs.map (·.1))->l.Nodup->l.length<=2304):=λl h1 h2=>by
  have:=vQ l (rs.map (·.1)) h2 h1;rw[List.length_map] at this;have:=Uu.j;omega
 have HS:Hid (∀w2,w2.ranges prog 3 RI mb w.heap.size rs.length D (Maps.has D) (Maps.size D)->w.grownBy w2 none->xh U w xb mb gb w.heap.size D N os rs (.slice none 0 0) [] (Maps.has D) (Maps.size D) w2):=λw2 hr hg=>by
  have ho:=Gi hg;refine⟨hr,hx.quiet ho,Nat.le_refl _,⟨ho,ai.nil _ _ _ _⟩,List.nodup_nil,λx=>?_⟩;constructor
  ·intro h9;cases h9
  ·rintro⟨h1,h2⟩;obtain⟨r,rG,rfl⟩:=List.mem_map.1 h1;rw[(hx.hk _ (Iv.j r rG)).2 h1] at h2;cases h2
 clear hx hw;go_enter func73,ntmps73;go_wp2_with (at_range;refine wpList_range_own _ rfl _ 247 rfl 3 3 oO underlying247 RI mb rs.length D rfl HX.j.m ?_;intro w2 mx eK aR;have iT:=aa (HS.j w2 mx eK);clear mx eK aR);obtain⟨r,hr⟩:=Ze (w.heap.size);rw[<-hr] at iT|-;clear hr c0 HS
 go_frame
 go_loopw [3,4,12] (λv3 _ _ wr=>∃left cM l,Hid (xh U w xb mb gb r D N os rs v3 l left cM wr)) (λ_ _ _ wr=>wr.rangeLeft mb r)
 case atStart=>exact⟨_,_,_,iT⟩
 case round=>
  clear iT;obtain⟨left,cM,l,HR⟩:=hrel;obtain⟨pv,cv,we,_⟩:=HR.j.ml.own.form;obtain⟨m,hm⟩:=Ze ((l.map (λx=>((1:Int),x))).length);rw[<-hm] at we;subst we;have sO:=aa hm;have fV:m<=2304:=by rw[hm,List.length_map];exact HNL.j l (λx hx=>((HR.j.mem x).1 hx).1) HR.j.nd
  clear hm;go_wp2_with (at_next;refine wpList_next_ranges _ rfl _ rfl 3 oO RI (Value.int .i64) (Value.int .i64) J8 ON mb r rs.length D left cM rfl HR.j.rg ?_ ?_)
  ·intro qH u9;have E0:=aa (HR.j.all EU.j u9);have Cw:Hid (cA U wr xb mb gb D N os rs/\mM 85 w (.slice pv m cv) (l.map (λx=>((1:Int),x))++((fC N os).take 0).filter (λo=>decide (o.1≠0))) wr):=⟨HR.j.xq,by rw[List.take_zero,List.filter_nil,List.append_nil];exact HR.j.ml⟩
   have c1:=Cw.j.1.c1;clear qH u9 HR sO fV;go_wp2_with fail;clear c1
   go_loopw [3,6,26] (λv3 _ d wr=>∃k:Nat,d=.int .i64 (k:Int)/\k<=N/\Hid (cA U wr xb mb gb D N os rs/\mM 85 w v3 (l.map (λx=>((1:Int),x))++((fC N os).take k).filter (λo=>decide (o.1≠0))) wr)) (λ_ _ d _=>N - (RowKit.intOf d).toNat)
   case atStart=>exact⟨0,rfl,Zo,Cw⟩
   case round=>
    clear Cw;obtain⟨k,rfl,hk,HM⟩:=hrel;obtain⟨O9,To,aP,_⟩:=HM.j.2.own.form;obtain⟨m2,bE⟩:=Ze ((l.map (λx=>((1:Int),x))++((fC N os).take k).filter (λo=>decide (o.1≠0))).length)
    have Bh:Hid (m2=(l.map (λx=>((1:Int),x))++((fC N os).take k).filter (λo=>decide (o.1≠0))).length/\m2<=5000):=by
     refine⟨bE,?_⟩;have h1:=E0.j.length_eq;rw[List.length_map] at h1;have h2:=Uu.j;have h3:(((fC N os).take k).filter (λo=>decide (o.1≠0))).length<=k:=Nat.le_trans (List.length_filter_le _ _) (by rw[List.length_take];omega);rw[bE,List.length_append,List.length_map];omega
    rw[<-bE] at aP;subst aP;clear bE;by_cases ah:k<N
    ·have h1:(k:Int)<(N:Int):=Zo;have bf:0<=(k:Int)/\(k:Int)<(N:Int):=Zo;have iY:=Zf k Zo;have dG:=aa (aa5 os k ah);obtain⟨b0,b1⟩:=HM.j.1.F9 k ah;generalize gz os (k:Int)=x at b0 b1 dG;obtain⟨x0,x1⟩:=x;dsimp only at b0 b1;obtain⟨w5,dN,eG,lS⟩:=zR wr (.int .i64 x0) (.int .i64 x1) 85;have tZ:Hid (cA U w5 xb mb gb D N os rs/\mM 85 w (.slice O9 m2 To) (l.map (λx=>((1:Int),x))++((fC N os).take k).filter (λo=>decide (o.1≠0))) w5):=⟨HM.j.1.quiet eG,HM.j.2.quiet eG⟩
     obtain⟨E,hE⟩:=Ze (wr.heap.size);rw[<-hE] at lS;obtain⟨p0,p1⟩:=lS _ (ae.refl _ _);have iu:Hid (k+1<=N):=ah;clear eG lS ah;go_upto_region 9 with fail
     rw[<-dN,<-hE];clear dN hE b0 b1 HM;by_cases hz:x0=0
     ·subst hz;rw[if_pos rfl,List.append_nil] at dG;go_wp2_with fail;go_roundw
      case rel=>exact⟨k+1,by go_num,iu.j,by rw[dG.j];exact tZ⟩
      case measure=>have:=iu.j;simp only[RowKit.intOf];omega
     ·have uQ:(x0==0)=false:=beq_eq_false_iff_ne.2 hz;rw[if_neg hz] at dG;have oG:Hid (w.heap.size<=w5.heap.size):=tZ.j.2.on.size;have cX:Hid ((l.map (λx=>((1:Int),x))++((fC N os).take k).filter (λo=>decide (o.1≠0))).length+1<=10000000):=by show _<=_;rw[<-Bh.j.1];have:=Bh.j.2;omega
      go_wp2_with (at_builtin;refine mg BC _ rfl _ _ rfl w.heap.size (.slice O9 m2 To) _ rfl tZ.j.2.own (x0,x1) _ _ rfl rfl rfl cX.j oG.j ?_;intro v' w8 bc aP bB;have aG:=aa (⟨tZ.j.1.beside eM.j.2.2.1 eM.j.1 eM.j.2.1 eM.j.2.2.2 tZ.j.2.own aP,tZ.j.2.push bc aP⟩:_/\_);clear bc aP bB);go_roundw
      case rel=>exact⟨k+1,by go_num,iu.j,by rw[dG.j,<-List.append_assoc];exact aG⟩
      case measure=>have:=iu.j;simp only[RowKit.intOf];omega
    ·obtain rfl:k=N:=Zo;have h1:¬(k:Int)<(k:Int):=Zo;have uW:=HM.j.2
     have gY:(fC k os).take k=fC k os:=by
      have:=List.take_length (l:=fC k os);rw[uE] at this;exact this
     rw[gY] at uW;have zA:=aa uW
     have hlen:(l.map (λx=>((1:Int),x))++(fC k os).filter (λo=>decide (o.1≠0))).length<=10000:=by
      have h2:=Bh.j;rw[gY] at h2;omega
     have rR:=aa (Xu uW.own hlen)
     have sN:Hid ((l.map (λx=>((1:Int),x))++(fC k os).filter (λo=>decide (o.1≠0))).Perm (fE os rs)):=by
      have h2:(l.map (λx=>((1:Int),x))).Perm (rs.map (λr=>((1:Int),r.1))):=by
       have:=E0.j.map (λx=>((1:Int),x));rw[List.map_map] at this;exact this
      exact(h2.append HRP.j).trans List.perm_append_comm
     clear ah uW gY hlen HM;go_wp2_with fail;refine rR.j.m ?_;rintro e w9 ⟨rfl,kP,o1,o2,o3,o4⟩;have HF:=aa (⟨o1,o2.trans sN.j,o3,ae.beyond zA.j.on o4 (λk hk=>(cH zA.j.own hk).1)⟩:_/\_/\_/\_);clear o1 o2 o3 o4;go_wp2_with fail
     all_goals
      go_ret;exact⟨_,rfl,kP,HF.j.1,HF.j.2.1,HF.j.2.2.1,HF.j.2.2.2⟩
  ·intro x c kl y yp w6 wY sw gh hv nF yt ah eK aR oZ;obtain⟨uS,rfl,iN⟩:=pZ.key (⟨HR.j.rg,HR.j.xq,HR.j.hr,HR.j.ml.on⟩:pZ U w xb mb gb r D N os rs left cM wr) sw nF;have Iq:=aa (⟨iN,gh⟩:_/\_);have nP:Hid (wr.rangeLeft mb r=cM/\wY<cM):=⟨HR.j.rg.left_eq,ah⟩
   have H3:=aa (HR.j.next (x:=x) yt eK);have oG:Hid (w.heap.size<=w6.heap.size):=H3.j.2.2.on.size;have cX:Hid ((l.map (λx=>((1:Int),x))).length+1<=10000000):=by show _<=_;rw[<-sO.j];omega
   clear sw gh hv nF yt ah eK aR uS iN;go_wp2_with (at_builtin;refine mg BC _ rfl _ _ rfl w.heap.size (.slice pv m cv) _ rfl H3.j.2.2.own ((1:Int),x) _ _ rfl rfl rfl cX.j oG.j ?_;intro v' w8 bc aP bB;have aG:=aa (HR.j.push eM.j Iq.j.1 Iq.j.2 H3.j.1 H3.j.2.1 H3.j.2.2 bc aP);clear bc aP bB);go_roundw
   case rel=>exact⟨_,wY,_,aG⟩
   case measure=>rw[nP.j.1,aG.j.rg.left_eq];exact nP.j.2
end
end Go.Proofs.YtphkconoooeidaaGreatDoor

import Derived.Test.YtphkconoooeidaaGreatDoorCp17
import Derived.Test.YtphkconoooeidaaGreatDoorCp18
import Derived.Test.YtphkconoooeidaaGreatDoorCp20
set_option maxRecDepth 100000
set_option maxHeartbeats 8000000
set_option linter.unusedVariables false
set_option linter.unusedSimpArgs false
open Go Go.Vx Go.Proofs.Tryz Go.ChangeShapes Go.WideShapes Go.ChangeAt Go.RowKit
namespace Go.Proofs.YtphkconoooeidaaGreatDoor
section
variable {P:Int} {os rs:Lp}
theorem afW (hp:fk P os rs) (n:Int):dk os rs (0,n)=false:=by
 unfold dk;rw[if_neg (show¬((0:Int)=9\/(0:Int)=10) from Zd)];refine decide_eq_false (λh=>?_);unfold fE at h;rcases List.mem_append.1 h with h|h
 ·have:=(hp.ok _ h).1;simp only at this;omega
 ·obtain⟨r,_,he⟩:=List.mem_map.1 h;simp only[Prod.mk.injEq] at he;exact absurd he.1 Zd
theorem afU (hp:fk P os rs) (n:Int):dk os rs (1,n)=((gL rs n).2==0):=by
 unfold dk;rw[if_neg (show¬((1:Int)=9\/(1:Int)=10) from Zd)]
 have hm:(1,n)∈fE os rs↔n∈rs.map (·.1):=by
  unfold fE;rw[List.mem_append];constructor
  ·rintro(h|h)
   ·have:=(hp.ok _ h).1;simp only at this;omega
   ·obtain⟨r,hr,he⟩:=List.mem_map.1 h;simp only[Prod.mk.injEq] at he;exact List.mem_map.2 ⟨r,hr,he.2⟩
  ·intro h;obtain⟨r,hr,he⟩:=List.mem_map.1 h;exact Or.inr (List.mem_map.2 ⟨r,hr,by rw[he]⟩)
 unfold gL
 cases hf:jP rs n with
 |none=>
  refine decide_eq_false (λh=>?_);obtain⟨r,hr,he⟩:=List.mem_map.1 (hm.1 h);have:=mu (show dq _ rs 0=none from hf) r hr
  simp[he] at this
 |some i=>
  obtain⟨hi,hn⟩:=Dj (show dq _ rs 0=some i from hf);refine decide_eq_true (hm.2 (List.mem_map.2 ⟨rs[i],List.getElem_mem hi,of_decide_eq_true hn⟩))
theorem afX (hp:fk P os rs) {k n:Int} (h0:k≠0) (h1:k≠1) (h9:k≠9) (LX:k≠10):dk os rs (k,n)=(((atR P os n).2==0)&&decide ((atR P os n).1=(k,n))):=by
 unfold dk;rw[if_neg (show¬(k=9\/k=10) from Zo)]
 have hm:(k,n)∈fE os rs↔(k,n)∈os:=by
  unfold fE;rw[List.mem_append];constructor
  ·rintro(h|h)
   ·exact h
   ·obtain⟨r,_,he⟩:=List.mem_map.1 h;simp only[Prod.mk.injEq] at he;exact absurd he.1.symm h1
  ·exact Or.inl
 unfold atR;by_cases hb:n<0\/P<=n
 ·rw[if_pos hb];refine decide_eq_false (λh=>?_);have:=hp.ok _ (hm.1 h);simp only at this;omega
 ·rw[if_neg hb]
  cases hf:Ci os n with
  |none=>
   have:¬(k,n)∈fE os rs:=λh=>by
    have:=mu (show dq _ os 0=none from hf) _ (hm.1 h);simp at this
   rw[decide_eq_false this];show false=((0:Int)==0&&decide (((0:Int),(0:Int))=(k,n)))
   rw[decide_eq_false (λh=>h0 (by injection h with h2;exact h2.symm))]
   rfl
  |some i=>
   obtain⟨hi,hn⟩:=Dj (show dq _ os 0=some i from hf);have hn:=of_decide_eq_true hn;show decide _=((0:Int)==0&&decide (os.getD i (0,0)=(k,n)))
   rw[show os.getD i (0,0)=os[i] from by simp[List.getD_eq_getElem?_getD,hi]];rw[Bool.eq_iff_iff];simp only[decide_eq_true_eq,Bool.and_eq_true,beq_self_eq_true,true_and,hm];constructor
   ·intro h;obtain⟨j,hj,he⟩:=List.getElem_of_mem h;have gZ:=List.pairwise_iff_getElem.1 hp.on
    have lj:i=j:=by
     rcases Nat.lt_trichotomy i j with ah|ah|ah
     ·have h5:=gZ i j (by simpa using hi) (by simpa using hj) ah;rw[List.getElem_map,List.getElem_map,hn,he] at h5;exact absurd rfl h5
     ·exact ah
     ·have h5:=gZ j i (by simpa using hj) (by simpa using hi) ah;rw[List.getElem_map,List.getElem_map,hn,he] at h5;exact absurd rfl h5
    subst lj;exact he
   ·intro h;rw[<-h];exact List.getElem_mem hi
end
end Go.Proofs.YtphkconoooeidaaGreatDoor
namespace Go.Vx
theorem aD.Jg {Ps Qs:List dR} {U:Nat->Prop} {w:World} (h:aD Ps U w) (s:Nat->Nat) (hq:∀i,i<Qs.length->Qs[i]?=Ps[s i]?) (hi:∀i,i<Qs.length->∀j,j<Qs.length->s i=s j->i=j):aD Qs U w:=by
 obtain⟨hu,C,hp,hd,hl⟩:=h;refine⟨hu,λi k=>i<Qs.length/\C (s i) k,λi P hP=>?_,λi j k h1 h2=>hi i h1.1 j h2.1 (hd _ _ k h1.2 h2.2),λi k hk=>hl _ k hk.2⟩;have bM:i<Qs.length:=(List.getElem?_eq_some_iff.1 hP).1;rw[hq i bM] at hP;have h1:=hp _ P hP;exact⟨h1.1,h1.1 _ _ (λ_=>False) w w h1.2 (ae.refl _ _) (λ_ _ h=>h.elim) (λk hk=>Or.inl ⟨hk.1,λh2=>hk.2 ⟨bM,h2⟩⟩)⟩
end Go.Vx
namespace Go.Proofs.YtphkconoooeidaaGreatDoor
theorem OH {α:Type} (st:Kn->α->Kn×Int) (K:Kn) (l:List α) (i:Nat) (h:i<l.length):bz st K (l.drop i) i=if (st K l[i]).2=0 then bz st (st K l[i]).1 (l.drop (i+1)) (i+1) else ((st K l[i]).1,(st K l[i]).2,i):=by
 rw[List.drop_eq_getElem_cons h];rfl
theorem Yg {α:Type} (st:Kn->α->Kn×Int) (K:Kn) (l:List α) (i j:Nat) (h:l.length<=i):bz st K (l.drop i) j=(K,0,0):=by
 rw[List.drop_eq_nil_of_le h];rfl
theorem gV {α:Type} {st:Kn->α->Kn×Int} {q:Kn×Int×Nat} (l:List α) (h:q.2.1≠0):aY st q l=q:=if_neg h
theorem CO {α:Type} {st:Kn->α->Kn×Int} {q:Kn×Int×Nat} (l:List α) (h:q.2.1=0):aY st q l=bz st q.1 l 0:=if_pos h
structure dn {α:Type} (st:Kn->α->Kn×Int) (l:List α) (Q:Kn×Int×Nat) (K:Kn) (i:Nat):Prop where
 le:i<=l.length
 q:bz st K (l.drop i) i=Q
theorem dn.start {α:Type} (st:Kn->α->Kn×Int) (K:Kn) (l:List α):dn st l (bz st K l 0) K 0:=⟨Nat.zero_le _,by rw[List.drop_zero]⟩
theorem dn.next {α:Type} {st:Kn->α->Kn×Int} {l:List α} {Q:Kn×Int×Nat} {K:Kn} {i:Nat} (h:dn st l Q K i) (hi:i<l.length) (h0:(st K l[i]).2=0):dn st l Q (st K l[i]).1 (i+1):=⟨hi,by rw[<-h.q,OH st K l i hi,if_pos h0]⟩
theorem dn.bad {α:Type} {st:Kn->α->Kn×Int} {l:List α} {Q:Kn×Int×Nat} {K:Kn} {i:Nat} (h:dn st l Q K i) (hi:i<l.length) (h0:(st K l[i]).2≠0):Q=((st K l[i]).1,(st K l[i]).2,i):=by rw[<-h.q,OH st K l i hi,if_neg h0]
theorem dn.fin {α:Type} {st:Kn->α->Kn×Int} {l:List α} {Q:Kn×Int×Nat} {K:Kn} {i:Nat} (h:dn st l Q K i) (hi:l.length<=i):Q=(K,0,0):=by rw[<-h.q,Yg st K l i i hi]
structure A5 (S:Sk):Prop where
 n:aj S.n
 c:S.c<4294967296
 ts:S.ts.length<=10000000000000
 ob:∀x∈S.ob,aj x.1/\aj x.2.1/\aj x.2.2
 cP:∀x∈S.cP,aj x.1/\x.2.length<=140737488355328
 cp:∀x∈S.cp,kE x.cap/\aj x.cap.num/\aj x.cap.rights/\aj x.at'.1/\aj x.aW.1
 mp:∀x∈S.mp,aj x.root/\x.va<4294967296/\aj x.rights/\aj x.at'.1
 th:∀x∈S.th,xe x/\aj x.num
 iq:∀x∈S.iq,aj x.1/\aj x.2.1
theorem xF {w:World} {rc:Nat} {a0 a1:Value} {T:TypeId} (h:w.heap[rc]?=some (.cells #[a0,a1] T (0,0))):(w.cell? ⟨rc,0,none⟩=some a0/\w.cell? ⟨rc,1,none⟩=some a1)/\∀j,w.frozen? ⟨rc,j,none⟩=false:=
 ⟨⟨Zl h,Zl h⟩,λj=>by simp[World.frozen?,h]⟩
theorem adr (k:Int) (w:World):Zk 155 #[Zi k] w λe w'=>Zr e (.bool (decide (1<=k/\k<=8)))/\w'=w:=by
 by_cases h1:1<=k
 ·by_cases h2:k<=8
  ·have HT:Hid (decide (1<=k/\k<=8)=true):=decide_eq_true ⟨h1,h2⟩;rw[HT.j];go_enter func155,ntmps155;go_wp2_with fail
   all_goals
    go_ret;exact⟨by first|rfl|simp_all,rfl⟩
  ·have HT:Hid (decide (1<=k/\k<=8)=false):=decide_eq_false (λh=>h2 h.2);rw[HT.j];go_enter func155,ntmps155;go_wp2_with fail
   all_goals
    go_ret;exact⟨by first|rfl|simp_all,rfl⟩
 ·have HT:Hid (decide (1<=k/\k<=8)=false):=decide_eq_false (λh=>h1 h.1);rw[HT.j];go_enter func155,ntmps155;go_wp2_with fail
  all_goals
   go_ret;exact⟨by first|rfl|simp_all,rfl⟩
theorem Pf (n:Int) (h0:0<=n) (h1:aj n) (w:World):Zk 194 #[Zi n] w λe w'=>Zr e (.tuple #[Zi (n % 256),Zi (n/256)])/\w'=w:=by
 obtain⟨q,hq⟩:∃q:Int,q=n/256:=⟨_,rfl⟩
 obtain⟨r,hr⟩:∃r:Int,r=n % 256:=⟨_,rfl⟩
 have e1:n.tdiv 256=q:=by rw[Int.tdiv_eq_ediv_of_nonneg h0,hq]
 have e2:n.tmod 256=r:=by rw[Int.tmod_eq_emod_of_nonneg h0,hr]
 unfold aj at h1;have w1:=Zh q Zo;have w2:=Zh r Zo;rw[<-hq,<-hr];clear hq hr h0 h1;go_enter func194,ntmps194;go_wp2_with fail
 all_goals
  go_ret2;exact⟨by first|rfl|simp[e1,e2,w1,w2],rfl⟩
theorem F7 (a n:Int) (hw:IntKind.i64.wrap (a+n)=a+n) (w:World):Zk 196 #[.agg #[Zi a,Zi n]] w λe w'=>Zr e (Zi (a+n))/\Zq w w':=by
 have HO:Hid (∀o,Zq w (w.alloc o)):=λo=>(ae.refl _ w).alloc _
 go_enter func196,ntmps196;go_wp2_with fail
 all_goals
  go_ret;exact⟨by first|rfl|simp[hw],HO.j _⟩
theorem Jy (n:Int) (hn:fK n) (w:World):Zk 195 #[Zi n] w λe w'=>Zr e (.agg #[Zi (aQ (1,n)),Zi (aU (1,n))])/\Zq w w':=by
 have aK:=aa (λwv=>Pf n hn.1 (by unfold fK at hn;unfold aj;omega) wv);have HA:Hid (aQ (1,n)=n % 256):=if_pos rfl;have HN:Hid (aU (1,n)=((2^(n/256).toNat:Nat):Int)):=if_pos rfl;obtain⟨q,r,BR,hr,hq⟩:∃q r:Nat,n=256*q+r/\r<256/\q<=8:=⟨(n/256).toNat,(n % 256).toNat,by unfold fK at hn;omega,Zo,by unfold fK at hn;omega⟩
 have e3:n/256=(q:Int):=Zo;have e4:n % 256=(r:Int):=Zo;rw[e3,e4] at aK;rw[e3,Int.toNat_natCast] at HN;rw[e4] at HA;rw[HA.j,HN.j];clear BR e3 e4 hn HA HN;obtain⟨w1,ag⟩:=Ze (w.alloc (.cells #[Zi 0,Zi 0] 304));have aB:=Za ag;have hz:w1.heap[w.heap.size]?=some (.cells #[Zi 0,Zi 0] 304 (0,0)):=by rw[ag];exact heap_alloc_last _ _
 obtain⟨rc,dO⟩:=Ze (w.heap.size);rw[<-dO] at hz;have HO:Hid (Zq w w1/\w.heap.size<=rc):=⟨aB,Zo⟩
 have HS:Hid (∀x y:Value,Zq w ((w1.setCell ⟨rc,0,none⟩ x).setCell ⟨rc,1,none⟩ y)):=λx y=>ae.setCell (ae.setCell HO.j.1 (Or.inr HO.j.2) _) (Or.inr HO.j.2) _
 obtain⟨⟨z0,z1⟩,zf⟩:=xF hz;have f0:=zf 0;have f1:=zf 1;clear zf hz aB;rcases(by omega:q=0\/q=1\/q=2\/q=3\/q=4\/q=5\/q=6\/q=7\/q=8) with rfl|rfl|rfl|rfl|rfl|rfl|rfl|rfl|rfl
 all_goals
  go_enter func195,ntmps195;go_upto_region 1 with fail
  rw[<-ag,<-dO];clear ag dO;go_wp2_with fail;refine(aK.j _).e1 ?_;go_wp2_with fail;refine bodyPost_ret (v:=.agg #[Zi (r:Int),Zi _]) ?_ rfl ⟨rfl,HS.j _ _⟩;simp[results,results195,go_sem,z0,z1]
theorem laid_two (w:World) (a0 a1 b0 b1:Value) (S T:TypeId):∃w2,w2=(w.alloc (.cells #[a0,a1] S)).alloc (.cells #[b0,b1] T)/\Zq w w2/\∀wv,Zq w2 wv->(wv.cell? ⟨w.heap.size,0,none⟩=some a0/\wv.cell? ⟨w.heap.size,1,none⟩=some a1)/\wv.cell? ⟨w.heap.size+1,0,none⟩=some b0/\wv.cell? ⟨w.heap.size+1,1,none⟩=some b1:=by
 refine⟨_,rfl,((ae.refl _ w).alloc _).alloc _,λwv ho=>?_⟩
 have h1:((w.alloc (.cells #[a0,a1] S)).alloc (.cells #[b0,b1] T)).heap[w.heap.size]?=some (.cells #[a0,a1] S (0,0)):=by
  rw[RowKit.Below.heap_alloc _ _ _ (by simp)];exact heap_alloc_last w _
 have h2:((w.alloc (.cells #[a0,a1] S)).alloc (.cells #[b0,b1] T)).heap[w.heap.size+1]?=some (.cells #[b0,b1] T (0,0)):=by
  have:=heap_alloc_last (w.alloc (.cells #[a0,a1] S)) (.cells #[b0,b1] T);simpa using this
 exact⟨(xF (ae.keep ho h1 (λh=>h))).1,(xF (ae.keep ho h2 (λh=>h))).1⟩
theorem ZZ (a n b m:Int) (h1:IntKind.i64.wrap (b+m)=b+m) (h2:IntKind.i64.wrap (a+n)=a+n) (w:World):Zk 197 #[.agg #[Zi a,Zi n],.agg #[Zi b,Zi m]] w λe w'=>Zr e (.bool (mi a n b m))/\Zq w w':=by
 have vC:=aa (λwv=>F7 b m h1 wv);have gy:=aa (λwv=>F7 a n h2 wv);obtain⟨w2,aT,aC,bH⟩:=laid_two w (Zi a) (Zi n) (Zi b) (Zi m) 304 304;have aL:=aa aC;obtain⟨A,hA⟩:=Ze (w.heap.size);obtain⟨B,hB⟩:=Ze (w.heap.size+1);rw[<-hA] at bH;have lp:A+1=B:=Zo;rw[lp] at bH;have ar:Hid (∀wv,Zq w2 wv->Zc wv A 0 (Zi a)/\Zc wv A 1 (Zi n)/\Zc wv B 0 (Zi b)/\Zc wv B 1 (Zi m)):=λwv h=>⟨(bH wv h).1.1,(bH wv h).1.2,(bH wv h).2.1,(bH wv h).2.2⟩
 clear aC bH lp h1 h2;obtain⟨bm,Ly⟩:=Ze (b+m);obtain⟨an,Lz⟩:=Ze (a+n);have iU:Hid (mi a n b m=decide (a<bm/\b<an)):=by rw[Ly,Lz];exact rfl
 rw[<-Ly] at vC;rw[<-Lz] at gy;clear Ly Lz;have cN:Hid (Zq w2 w2.drew):=(ae.refl _ w2).drew;have af:=aa (ar.j _ cN.j);have gE:=cN;have ak:=af;have aw:=af;by_cases g1:a<bm
 ·have wV:decide (a<bm)=true:=decide_eq_true g1;by_cases g2:b<an
  ·have Ca:decide (b<an)=true:=decide_eq_true g2;have HT:Hid (mi a n b m=true):=by show _=_;rw[iU.j];exact decide_eq_true ⟨g1,g2⟩
   rw[HT.j];clear iU HT;go_enter func197,ntmps197;go_upto_region 1 with fail
   rw[<-aT,<-hB,<-hA];clear aT hA hB;go_region_held3 (λwv=>Zc wv A 0 (Zi a)/\Zc wv A 1 (Zi n)/\Zc wv B 0 (Zi b)/\Zc wv B 1 (Zi m)) (first|with_reducible exact af.j|with_reducible exact ak.j|with_reducible exact aw.j) (first|(go_at_call 196;refine(vC.j _).m ?_;rintro e w4 ⟨rfl,bL⟩;have gE:=aa (cN.j.trans bL);clear bL;have ak:=aa (ar.j _ gE.j))|(go_at_call 196;refine(gy.j _).m ?_;rintro e w5 ⟨rfl,eG⟩;have lF:=aa (gE.j.trans eG);clear eG;have aw:=aa (ar.j _ lF.j)));go_wp2_with fail
   all_goals
    go_ret;exact⟨by first|rfl|simp[wV,Ca],aL.j.trans lF.j⟩
  ·have Ca:decide (b<an)=false:=decide_eq_false g2;have HT:Hid (mi a n b m=false):=by show _=_;rw[iU.j];exact decide_eq_false (λh=>g2 h.2)
   rw[HT.j];clear iU HT;go_enter func197,ntmps197;go_upto_region 1 with fail
   rw[<-aT,<-hB,<-hA];clear aT hA hB;go_region_held3 (λwv=>Zc wv A 0 (Zi a)/\Zc wv A 1 (Zi n)/\Zc wv B 0 (Zi b)/\Zc wv B 1 (Zi m)) (first|with_reducible exact af.j|with_reducible exact ak.j|with_reducible exact aw.j) (first|(go_at_call 196;refine(vC.j _).m ?_;rintro e w4 ⟨rfl,bL⟩;have gE:=aa (cN.j.trans bL);clear bL;have ak:=aa (ar.j _ gE.j))|(go_at_call 196;refine(gy.j _).m ?_;rintro e w5 ⟨rfl,eG⟩;have lF:=aa (gE.j.trans eG);clear eG;have aw:=aa (ar.j _ lF.j)));go_wp2_with fail
   all_goals
    go_ret;exact⟨by first|rfl|simp[wV,Ca],aL.j.trans lF.j⟩
 ·have wV:decide (a<bm)=false:=decide_eq_false g1;have HT:Hid (mi a n b m=false):=by show _=_;rw[iU.j];exact decide_eq_false (λh=>g1 h.1)
  rw[HT.j];clear iU HT;go_enter func197,ntmps197;go_upto_region 1 with fail
  rw[<-aT,<-hB,<-hA];clear aT hA hB;obtain⟨a0,a1,b0,b1⟩:=af.j;refine wp_region_any Zx ?_
  try (change wpAny _ _ _ _ _ _ _ (World.drew _))
  refine wpAny_take (i:=0) (v:=?_) rfl Zx Zx Zx (λ_ _ _ h=>h) (Or.inl ⟨by rfl,?_⟩) ?_
  rotate_left
  ·intro w;go_simp
   try with_reducible rfl
  rotate_left
  refine wpAny_ready (rs:=[1,2]) Zx (by simp) ?_;refine(AllReady.cons rfl (λK hK=>?_) (AllReady.cons rfl (λK hK=>?_) AllReady.nil))
  ·go_simp;refine hK _ _ ?_;refine wpAny_ready (rs:=[2]) Zx (by simp) ?_;refine(AllReady.cons rfl (λK hK=>?_) AllReady.nil)
   ·go_simp;refine hK _ _ ?_;refine wpAny_ready (rs:=[3]) Zx (by simp) ?_;refine(AllReady.cons rfl (λK hK=>?_) AllReady.nil)
    ·go_simp;refine(vC.j _).m ?_;rintro e w4 ⟨rfl,bL⟩;have gE:=aa (cN.j.trans bL);clear bL;obtain⟨c0,c1,d0,d1⟩:=ar.j _ gE.j;go_simp;refine hK _ _ ?_;refine wpAny_take (i:=4) (v:=?_) rfl Zx Zx Zx (λ_ _ _ h=>h) (Or.inl ⟨by rfl,?_⟩) ?_
     rotate_left
     ·intro w;go_simp
      try with_reducible rfl
     rotate_left
     refine wpAny_take (i:=5) (v:=?_) rfl Zx Zx Zx (λ_ _ _ h=>h) (Or.inl ⟨by rfl,?_⟩) ?_
     rotate_left
     ·intro w;go_simp
      try with_reducible rfl
     rotate_left
     refine wpAny_take (i:=6) (v:=undef) rfl Zx Zx Zx (λ_ _ _ h=>h) (Or.inr ⟨by rfl,rfl⟩) ?_;refine wpAny_take (i:=7) (v:=undef) rfl Zx Zx Zx (λ_ _ _ h=>h) (Or.inr ⟨by rfl,rfl⟩) ?_;refine wpAny_take (i:=8) (v:=undef) rfl Zx Zx Zx (λ_ _ _ h=>h) (Or.inr ⟨by rfl,rfl⟩) ?_;refine wpAny_take (i:=9) (v:=undef) rfl Zx Zx Zx (λ_ _ _ h=>h) (Or.inr ⟨by rfl,rfl⟩) ?_;refine wpAny_take (i:=10) (v:=undef) rfl Zx Zx Zx (λ_ _ _ h=>h) (Or.inr ⟨by rfl,rfl⟩) ?_;refine wpAny_take (i:=11) (v:=?_) rfl Zx Zx Zx (λ_ _ _ h=>h) (Or.inl ⟨by rfl,?_⟩) ?_
     rotate_left
     ·intro w;go_simp
      try with_reducible rfl
     rotate_left
     refine wpAny_take (i:=12) (v:=?_) rfl Zx Zx Zx (λ_ _ _ h=>h) (Or.inl ⟨by rfl,?_⟩) ?_
     rotate_left
     ·intro w;go_simp
      try with_reducible rfl
     rotate_left
     refine wpAny_done Zx ?_ _;go_wp2_with fail;go_ret;exact⟨by first|rfl|simp[wV],aL.j.trans gE.j⟩
  ·go_simp;refine hK _ _ ?_;refine wpAny_ready (rs:=[1,3]) Zx (by simp) ?_;refine(AllReady.cons rfl (λK hK=>?_) (AllReady.cons rfl (λK hK=>?_) AllReady.nil))
   ·go_simp;refine hK _ _ ?_;refine wpAny_ready (rs:=[3]) Zx (by simp) ?_;refine(AllReady.cons rfl (λK hK=>?_) AllReady.nil)
    ·go_simp;refine(vC.j _).m ?_;rintro e w4 ⟨rfl,bL⟩;have gE:=aa (cN.j.trans bL);clear bL;obtain⟨c0,c1,d0,d1⟩:=ar.j _ gE.j;go_simp;refine hK _ _ ?_;refine wpAny_take (i:=4) (v:=?_) rfl Zx Zx Zx (λ_ _ _ h=>h) (Or.inl ⟨by rfl,?_⟩) ?_
     rotate_left
     ·intro w;go_simp
      try with_reducible rfl
     rotate_left
     refine wpAny_take (i:=5) (v:=?_) rfl Zx Zx Zx (λ_ _ _ h=>h) (Or.inl ⟨by rfl,?_⟩) ?_
     rotate_left
     ·intro w;go_simp
      try with_reducible rfl
     rotate_left
     refine wpAny_take (i:=6) (v:=undef) rfl Zx Zx Zx (λ_ _ _ h=>h) (Or.inr ⟨by rfl,rfl⟩) ?_;refine wpAny_take (i:=7) (v:=undef) rfl Zx Zx Zx (λ_ _ _ h=>h) (Or.inr ⟨by rfl,rfl⟩) ?_;refine wpAny_take (i:=8) (v:=undef) rfl Zx Zx Zx (λ_ _ _ h=>h) (Or.inr ⟨by rfl,rfl⟩) ?_;refine wpAny_take (i:=9) (v:=undef) rfl Zx Zx Zx (λ_ _ _ h=>h) (Or.inr ⟨by rfl,rfl⟩) ?_;refine wpAny_take (i:=10) (v:=undef) rfl Zx Zx Zx (λ_ _ _ h=>h) (Or.inr ⟨by rfl,rfl⟩) ?_;refine wpAny_take (i:=11) (v:=?_) rfl Zx Zx Zx (λ_ _ _ h=>h) (Or.inl ⟨by rfl,?_⟩) ?_
     rotate_left
     ·intro w;go_simp
      try with_reducible rfl
     rotate_left
     refine wpAny_take (i:=12) (v:=?_) rfl Zx Zx Zx (λ_ _ _ h=>h) (Or.inl ⟨by rfl,?_⟩) ?_
     rotate_left
     ·intro w;go_simp
      try with_reducible rfl
     rotate_left
     refine wpAny_done Zx ?_ _;go_wp2_with fail;go_ret;exact⟨by first|rfl|simp[wV],aL.j.trans gE.j⟩
   ·go_simp;refine(vC.j _).m ?_;rintro e w4 ⟨rfl,bL⟩;have gE:=aa (cN.j.trans bL);clear bL;obtain⟨c0,c1,d0,d1⟩:=ar.j _ gE.j;go_simp;refine hK _ _ ?_;refine wpAny_ready (rs:=[1]) Zx (by simp) ?_;refine(AllReady.cons rfl (λK hK=>?_) AllReady.nil)
    ·go_simp;refine hK _ _ ?_;refine wpAny_take (i:=4) (v:=?_) rfl Zx Zx Zx (λ_ _ _ h=>h) (Or.inl ⟨by rfl,?_⟩) ?_
     rotate_left
     ·intro w;go_simp
      try with_reducible rfl
     rotate_left
     refine wpAny_take (i:=5) (v:=?_) rfl Zx Zx Zx (λ_ _ _ h=>h) (Or.inl ⟨by rfl,?_⟩) ?_
     rotate_left
     ·intro w;go_simp
      try with_reducible rfl
     rotate_left
     refine wpAny_take (i:=6) (v:=undef) rfl Zx Zx Zx (λ_ _ _ h=>h) (Or.inr ⟨by rfl,rfl⟩) ?_;refine wpAny_take (i:=7) (v:=undef) rfl Zx Zx Zx (λ_ _ _ h=>h) (Or.inr ⟨by rfl,rfl⟩) ?_;refine wpAny_take (i:=8) (v:=undef) rfl Zx Zx Zx (λ_ _ _ h=>h) (Or.inr ⟨by rfl,rfl⟩) ?_;refine wpAny_take (i:=9) (v:=undef) rfl Zx Zx Zx (λ_ _ _ h=>h) (Or.inr ⟨by rfl,rfl⟩) ?_;refine wpAny_take (i:=10) (v:=undef) rfl Zx Zx Zx (λ_ _ _ h=>h) (Or.inr ⟨by rfl,rfl⟩) ?_;refine wpAny_take (i:=11) (v:=?_) rfl Zx Zx Zx (λ_ _ _ h=>h) (Or.inl ⟨by rfl,?_⟩) ?_
     rotate_left
     ·intro w;go_simp
      try with_reducible rfl
     rotate_left
     refine wpAny_take (i:=12) (v:=?_) rfl Zx Zx Zx (λ_ _ _ h=>h) (Or.inl ⟨by rfl,?_⟩) ?_
     rotate_left
     ·intro w;go_simp
      try with_reducible rfl
     rotate_left
     refine wpAny_done Zx ?_ _;go_wp2_with fail;go_ret;exact⟨by first|rfl|simp[wV],aL.j.trans gE.j⟩
section
variable {U V S:Nat->Prop} {w w2:World} {xb pb mb gb N:Nat} {P:Int} {D:DataW Value} {os rs:Lp}
theorem aa0 (k n:Int) (w:World):Zk 234 #[.agg #[Zi k,Zi n]] w λe w'=>Zr e (.bool (k !=0))/\Zq w w':=by
 go_enter func234,ntmps234;go_wp2_with fail
 all_goals
  go_ret;exact⟨by first|rfl|simp_all,(ae.refl _ _).alloc _⟩
theorem cA.aag (h:cA U w xb mb gb D N os rs) (a k:Nat) (hk:a+k<N):w.cell? ⟨gb,a*2+k*2,none⟩=some (Zi (gz os ((a+k:Nat):Int)).1)/\w.cell? ⟨gb,a*2+k*2+1,none⟩=some (Zi (gz os ((a+k:Nat):Int)).2):=by
 have:=h.F9 (a+k) hk;rw[Nat.add_mul] at this;exact this
theorem aa1 (h:cA U w xb mb gb D N os rs) (hN:N<=256) (a m c:Nat) (sA:a+m<=N) (G4:m<=c) (hc:c<=256):Zk 251 #[.slice (some ⟨gb,a*2,none⟩) m c,.func (.func 234) #[] #[]] w λe w'=>∃r:Int,Zr e (Zi r)/\(0<=r↔∃k:Nat,k<m/\(gz os ((a+k:Nat):Int)).1≠0)/\Zq w w':=by
 have HX:=aa h;have HAM:=aa sA;have hm:m<=256:=Zo;clear h sA G4 hc;go_enter func251,ntmps251;go_wp2_with fail
 go_loopw [5,8] (λ_ d wr=>∃k:Nat,d=Zi (k:Int)/\k<=m/\Hid (∀j:Nat,j<k->(gz os ((a+j:Nat):Int)).1=0)/\Hid (Zq w wr)) (λ_ d _=>m - (RowKit.intOf d).toNat)
 case atStart=>exact⟨0,rfl,Zo,λj hj=>absurd hj (Nat.not_lt_zero _),ae.refl _ _⟩
 case round=>
  obtain⟨k,rfl,hk,HQ,HW⟩:=hrel;by_cases ah:k<m
  ·have h1:(k:Int)<(m:Int):=Zo;have bf:0<=(k:Int)/\(k:Int)<(m:Int):=Zo;have iY:=Zf k Zo;obtain⟨c0,c1⟩:=(HX.j.quiet HW.j).aag a k (by have:=HAM.j;omega);have HF:=aa (λwv=>aa0 (gz os ((a+k:Nat):Int)).1 (gz os ((a+k:Nat):Int)).2 wv);generalize hp:gz os ((a+k:Nat):Int)=p at c0 c1 HF;obtain⟨d0,d1⟩:=p;dsimp only at c0 c1 HF;have HP:=aa hp;clear hp;by_cases hz:d0=0
   ·subst hz;have uQ:((0:Int) !=0)=false:=Zd;rw[uQ] at HF;go_wp2_with fail;refine(HF.j _).m ?_;rintro e w3 ⟨rfl,h3⟩;have H3:=aa (HW.j.trans h3);clear h3 c0 c1;go_wp2_with fail;go_roundw
    case rel=>
     refine⟨k+1,by go_num,Zo,(show∀j:Nat,j<k+1->(gz os ((a+j:Nat):Int)).1=0 from λj hj=>?_),H3⟩;by_cases e:j=k
     ·subst e;rw[HP.j]
     ·exact HQ.j j Zo
    case measure=>exact Zm
   ·have uQ:(d0 !=0)=true:=by simp[hz]
    rw[uQ] at HF;go_wp2_with fail;refine(HF.j _).m ?_;rintro e w3 ⟨rfl,h3⟩;have H3:=aa (HW.j.trans h3);clear h3 c0 c1;go_wp2_with fail;go_ret;exact⟨(k:Int),rfl,⟨λ_=>⟨k,Zo,by rw[HP.j];exact hz⟩,λ_=>Zo⟩,H3.j⟩
  ·obtain rfl:k=m:=Zo;have h1:¬(k:Int)<(k:Int):=Zo;go_wp2_with fail;go_ret;refine⟨-1,rfl,⟨λh=>Zo,λ⟨j,hj,hq⟩=>absurd (HQ.j j Zo) hq⟩,HW.j⟩
theorem aa7 (h:cA U w xb mb gb D N os rs) (hN:N<=256) (a m c:Nat) (sA:a+m<=N) (G4:m<=c) (hc:c<=256):Zk 233 #[.slice (some ⟨gb,a*2,none⟩) m c,.func (.func 234) #[] #[]] w λe w'=>∃r:Bool,Zr e (.bool r)/\(r=true↔∃k:Nat,k<m/\(gz os ((a+k:Nat):Int)).1≠0)/\Zq w w':=by
 have HI:=aa (aa1 h hN a m c sA G4 hc);clear h sA G4 hc hN;go_enter func233,ntmps233;go_wp2_with fail;refine HI.j.m ?_;rintro e w2 ⟨r,rfl,h1,h2⟩;have H1:=aa h1;have H2:=aa h2;clear h1 h2;by_cases hr:0<=r
 ·go_wp2_with fail;go_ret;exact⟨true,by first|rfl|simp[hr],⟨λ_=>H1.j.1 hr,λ_=>rfl⟩,H2.j⟩
 ·go_wp2_with fail;go_ret;exact⟨false,by first|rfl|simp[hr],⟨λh=>(by cases h),λh=>absurd (H1.j.2 h) Zo⟩,H2.j⟩
def jB (os:Lp) (a n:Int):Bool:=os.any (λo=>decide (a<=o.2/\o.2<a+n))
theorem adP (hw:fk P os rs) (a m:Nat):jB os (a:Int) (m:Int)=true↔∃k:Nat,k<m/\(gz os ((a+k:Nat):Int)).1≠0:=by
 unfold jB;rw[List.any_eq_true];constructor
 ·rintro⟨o,ho,hd⟩;have h1:=of_decide_eq_true hd;refine⟨o.2.toNat - a,Zo,(CX hw _).2 ⟨o,ho,Zo⟩⟩
 ·rintro⟨k,hk,hq⟩;obtain⟨o,ho,he⟩:=(CX hw _).1 hq;exact⟨o,ho,decide_eq_true Zo⟩
theorem aa4 (g M a m:Nat) (hm:0<m) (h:a+m<=M):∀wv,(Instr.slice 126 (Zs g M M) (some (Zi (a:Int))) (some (Zi ((a:Int)+(m:Int)))) none).run prog wv=.ok (.slice (some ⟨g,a*2,none⟩) m (M - a)) wv:=by
 have ht:prog.underlying 126=some (.slice (prog.elem 126)):=Zx
 have aR:∀wv,(sizeOf (prog.elem 126)).run prog wv=.ok 2 wv:=by
  have he:prog.elem 126=85:=Zx;rw[he];obtain⟨k,z,h1,_,h2,_⟩:=BC.hi;intro wv;have h3:k.size=2:=h2;simp[sizeOf,typeInfo,h1,h3]
 intro wv;rw[run_slice_lh wv 126 (some ⟨g,0,none⟩) M M ht .i64 .i64 (a:Int) ((a:Int)+(m:Int)) Zo Zo Zo,aR];have e1:((a:Int)+(m:Int)).toNat=a+m:=Zo;have e2:a+m - a=m:=Zo;have e3:¬M=a:=Zo;rw[e1,Int.toNat_natCast];simp[sliced,Result.andThen,pY,e2,e3]
theorem aa3 (h:cA U w xb mb gb D N os rs) (hw:fk (N:Int) os rs) (a m:Nat) (hm:0<m) (sA:a+m<=N):Zk 198 #[Zp xb,.agg #[Zi (a:Int),Zi (m:Int)]] w λe w'=>Zr e (.bool (jB os (a:Int) (m:Int)))/\Zq w w':=by
 have hN:N<=256:=by have:=hw.p;omega
 have HE:=aa (λwv=>F7 (a:Int) (m:Int) (by rw[IntKind.wrap_i64];omega) wv);have hcut:=aa4 gb N a m hm sA
 have Fj:Hid (∀wv,cA U wv xb mb gb D N os rs->Zk 233 #[.slice (some ⟨gb,a*2,none⟩) m (N - a),.func (.func 234) #[] #[]] wv λe w'=>Zr e (.bool (jB os (a:Int) (m:Int)))/\Zq wv w'):=λwv hv=>by
  refine(aa7 hv hN a m (N - a) sA Zo Zo).m ?_;rintro e w' ⟨r,rfl,h1,h2⟩;refine⟨?_,h2⟩;have h3:=adP hw a m
  have h4:r=jB os (a:Int) (m:Int):=by
   cases hr:r with
   |true=>exact(h3.2 (h1.1 hr)).symm
   |false=>
    cases hb:jB os (a:Int) (m:Int) with
    |false=>rfl
    |true=>have:=h1.2 (h3.1 hb);rw[hr] at this;cases this
  rw[h4]
 obtain⟨b,hb⟩:=Ze (jB os (a:Int) (m:Int));rw[<-hb] at Fj|-;obtain⟨en,oZ⟩:=Ze ((a:Int)+(m:Int));rw[<-oZ] at HE hcut;obtain⟨w1,ag⟩:=Ze (w.alloc (.cells #[Zi (a:Int),Zi (m:Int)] 304));have aB:=Za ag;obtain⟨A,hA⟩:=Ze (w.heap.size);have hz:w1.heap[A]?=some (.cells #[Zi (a:Int),Zi (m:Int)] 304 (0,0)):=by rw[ag,hA];exact heap_alloc_last _ _
 have ar:Hid (∀wv,Zq w1 wv->wv.cell? ⟨A,0,none⟩=some (Zi (a:Int))/\wv.cell? ⟨A,1,none⟩=some (Zi (m:Int))/\wv.cell? ⟨xb,1,none⟩=some (Zs gb N N)):=λwv hv=>by
  obtain⟨q0,q1⟩:=(xF (ae.keep hv hz (λh=>h))).1;exact⟨q0,q1,((h.quiet aB).quiet hv).c1⟩
 have tU:=aa (h.quiet aB);have bX:=aa aB;clear h hw hb oZ aB hz sA hm hN;have cN:Hid (Zq w1 w1.drew):=(ae.refl _ w1).drew;have af:=aa (ar.j _ cN.j);have gE:=cN;have ak:=af;have aw:=af;go_enter func198,ntmps198;go_upto_region 1 with fail
 rw[<-ag,<-hA];clear ag hA;go_region_held3 (λwv=>Zc wv A 0 (Zi (a:Int))/\Zc wv A 1 (Zi (m:Int))/\Zc wv xb 1 (Zs gb N N)) (first|with_reducible exact af.j|with_reducible exact ak.j|with_reducible exact aw.j) (first|(go_at_call 196;refine(HE.j _).m ?_;rintro e w4 ⟨rfl,bL⟩;have gE:=aa (cN.j.trans bL);clear bL;have ak:=aa (ar.j _ gE.j))|(go_at_call 233;refine(Fj.j _ (tU.j.quiet gE.j)).m ?_;rintro e w5 ⟨rfl,eG⟩;have lF:=aa (gE.j.trans eG);clear eG;have aw:=aa (ar.j _ lF.j)));go_wp2_with fail
 all_goals
  go_ret;exact⟨rfl,bX.j.trans lF.j⟩
end
section
variable {U V S:Nat->Prop} {w w2 wr wx:World} {xb pb mb gb r N cM jJ:Nat} {P:Int} {D:DataW Value} {os rs:Lp} {left ye:Lit->Bool}
structure pZ (U:Nat->Prop) (w:World) (xb mb gb r:Nat) (D:DataW Value) (N:Nat) (os rs:Lp) (left:Lit->Bool) (cM:Nat) (wr:World):Prop where
 rg:wr.ranges prog 3 RI mb r rs.length D left cM
 xq:cA U wr xb mb gb D N os rs
 hr:w.heap.size<=r
 on:Zq w wr
theorem pZ.quiet (h:pZ U w xb mb gb r D N os rs left cM wr) (ho:Zq wr wx):pZ U w xb mb gb r D N os rs left cM wx:=
 ⟨PY h.rg ho (λh=>h) (λh=>h),h.xq.quiet ho,h.hr,h.on.trans ho⟩
theorem pZ.next (h:pZ U w xb mb gb r D N os rs left cM wr) (hr:wx.ranges prog 3 RI mb r rs.length D ye jJ) (hg:wr.grownBy wx (some r)):pZ U w xb mb gb r D N os rs ye jJ wx:=by
 have ho:=Gk hg;obtain⟨cur,hc⟩:=bu h.xq.pg (k:=gb) rfl;exact⟨hr,h.xq.aside ho (λe=>BE h.rg h.xq.x e.symm) (λe=>h.rg.ne e.symm) (λe=>BE h.rg hc e.symm) h.xq.ux h.xq.um h.xq.ug (λk hk=>Nat.lt_of_lt_of_le (h.xq.low k hk) ho.size),h.hr,ae.JR h.on ho h.hr⟩
theorem pZ.key (h:pZ U w xb mb gb r D N os rs left cM wr) {x:Int} {kl:Lit} {y:DataW Value} (sw:keyOf prog 3 (.int .i64 x)=some kl) (nF:∀zd,D.atKey kl zd=y):aj x/\kl=.int .i64 x/\x∈rs.map (·.1):=by
 obtain⟨x2,ex,rfl,hw⟩:=Maps.keyOf_i64 underlying3 sw;obtain rfl:x=x2:=by injection ex
 have hi:=CK hw;have hh:=Maps.has_true_of_atKey nF;rw[h.xq.hs x hi] at hh;exact⟨hi,rfl,JX hh⟩
theorem pZ.ace (h:cA U w xb mb gb D N os rs) (hi:∀r∈rs,aj r.1) (f:Int->Bool):∀x∈rs.map (·.1),Maps.has D (.int .i64 x)=false->f x=false:=λx hx hl=>by
 obtain⟨r,hr,rfl⟩:=List.mem_map.1 hx;rw[h.hs _ (hi r hr)] at hl;obtain⟨i,gj⟩:=FW hx;rw[gj] at hl;cases hl
theorem XO {f:Int->Bool} {x:Int} (hs:∀y∈rs.map (·.1),left (.int .i64 y)=false->f y=false) (hx:f x=false):∀y∈rs.map (·.1),uC left x (.int .i64 y)=false->f y=false:=λy hy hl=>by
 rw[I9] at hl;by_cases he:y=x
 ·rw[he];exact hx
 ·have h2:decide (y=x)=false:=decide_eq_false he;rw[h2] at hl;simp only[Bool.not_false,Bool.and_true] at hl;exact hs y hy hl
theorem XP {f:Int->Bool} (hs:∀y∈rs.map (·.1),left (.int .i64 y)=false->f y=false) (hl:∀kl,left kl=false):rs.any (λr=>f r.1)=false:=by
 rw[List.any_eq_false];intro r hr;rw[hs r.1 (List.mem_map.2 ⟨r,hr,rfl⟩) (hl _)];decide
theorem OA {f:Int->Bool} {x:Int} (hx:x∈rs.map (·.1)) (hf:f x=true):rs.any (λr=>f r.1)=true:=by
 obtain⟨r,hr,rfl⟩:=List.mem_map.1 hx;exact List.any_eq_true.2 ⟨r,hr,hf⟩
theorem ON (v:Value) (y:DataW Value×List MemPlace) (h:RI v=some y):∃c,v=Value.int .i64 c:=by
 obtain⟨a,ha,_⟩:=OO h;exact⟨a,ha⟩
theorem J8 (key:Value) (kl:Lit) (hk:keyOf prog 3 key=some kl):∃x,key=Value.int .i64 x:=by
 obtain⟨x,hx,_⟩:=Maps.keyOf_i64 underlying3 hk;exact⟨x,hx⟩
def xU (a m n:Int):Bool:=mi (aQ (1,n)) (aU (1,n)) a m
def sZ (os rs:Lp) (a m:Int):Bool:=rs.any (λr=>xU a m r.1) || jB os a m
theorem Jr {n:Int} (h:fK n):0<=aQ (1,n)/\aQ (1,n)<256/\1<=aU (1,n)/\aU (1,n)<=256:=⟨(JE rfl).1,(JE rfl).2,(zM (λ_=>h)).1,(zM (λ_=>h)).2⟩
theorem ZQ (h:cA U w xb mb gb D N os rs) (hw:fk (N:Int) os rs) (a m:Nat) (hm:0<m) (sA:a+m<=N):Zk 157 #[Zp xb,.agg #[.int .i64 (a:Int),.int .i64 (m:Int)]] w λe w'=>Zr e (.bool (sZ os rs (a:Int) (m:Int)))/\Zq w w':=by
 have hN:N<=256:=by have:=hw.p;omega
 have aT:=Zh ((a:Int)+(m:Int)) Zo
 have p7:Hid (∀x∈rs.map (·.1),fK x):=λx hx=>by
  obtain⟨r,hr,rfl⟩:=List.mem_map.1 hx;exact(hw.rk r hr).1
 have iU:Hid (∀n,fK n->∀wv,Zk 197 #[.agg #[.int .i64 (aQ (1,n)),.int .i64 (aU (1,n))],.agg #[.int .i64 (a:Int),.int .i64 (m:Int)]] wv λe w'=>Zr e (.bool (xU (a:Int) (m:Int) n))/\Zq wv w'):=λn hn wv=>by
  have:=Jr hn;exact ZZ _ _ _ _ aT (by rw[IntKind.wrap_i64];omega) wv
 have CA:Hid (∀wv,cA U wv xb mb gb D N os rs->Zk 198 #[Zp xb,.agg #[.int .i64 (a:Int),.int .i64 (m:Int)]] wv λe w'=>Zr e (.bool (jB os (a:Int) (m:Int)))/\Zq wv w'):=λwv hv=>aa3 hv hw a m hm sA
 have fY:Hid (sZ os rs (a:Int) (m:Int)=(rs.any (λr=>xU (a:Int) (m:Int) r.1) || jB os (a:Int) (m:Int))):=rfl;obtain⟨f,hf⟩:=Ze (xU (a:Int) (m:Int));obtain⟨ib,Hb⟩:=Ze (jB os (a:Int) (m:Int));obtain⟨tb,iO⟩:=Ze (sZ os rs (a:Int) (m:Int));rw[<-hf] at iU fY;rw[<-Hb] at CA fY;rw[<-iO] at fY|-;clear hf Hb iO aT hm sA hN;obtain⟨w1,ag⟩:=Ze (w.alloc (.cells #[.int .i64 (a:Int),.int .i64 (m:Int)] 304));have aB:=Za ag;obtain⟨A,hA⟩:=Ze (w.heap.size);have hz:w1.heap[A]?=some (.cells #[.int .i64 (a:Int),.int .i64 (m:Int)] 304 (0,0)):=by rw[ag,hA];exact heap_alloc_last _ _
 have nx:=h.quiet aB;have c0:=nx.c0;have HS:Hid (∀w2 r,w2.ranges prog 3 RI mb r rs.length D (Maps.has D) (Maps.size D)->w1.grownBy w2 none->w1.heap.size<=r->pZ U w1 xb mb gb r D N os rs (Maps.has D) (Maps.size D) w2):=λw2 r hr hg hle=>⟨hr,nx.quiet (Gi hg),hle,Gi hg⟩
 have pB:=aa (pZ.ace h (λr hr=>by have:=(hw.rk r hr).1;unfold fK at this;unfold aj;omega) f);have ar:Hid (∀wv,Zq w1 wv->Zc wv A 0 (.int .i64 (a:Int))/\Zc wv A 1 (.int .i64 (m:Int))):=λwv hv=>(xF (ae.keep hv hz (λh=>h))).1
 have tU:=aa nx;have TZ:=aa aB;clear h hz nx aB hw;go_enter func157,ntmps157;go_upto_region 1 with fail
 rw[<-ag,<-hA];clear ag hA;go_wp2_with (at_range;refine wpList_range_own _ rfl _ 247 rfl 3 3 oO underlying247 RI mb rs.length D rfl tU.j.m ?_;intro w2 mx eK aR;have iT:=aa (HS.j w2 _ mx eK (Nat.le_refl _));clear mx eK aR);obtain⟨r,hr⟩:=Ze (w1.heap.size);rw[<-hr] at iT|-;clear hr c0 HS tU
 go_frame
 go_loopw [5,11,12] (λ_ _ _ wr=>∃left cM,Hid (pZ U w1 xb mb gb r D N os rs left cM wr)/\Hid (∀x∈rs.map (·.1),left (.int .i64 x)=false->f x=false)) (λ_ _ _ wr=>wr.rangeLeft mb r)
 case atStart=>exact⟨_,_,iT,pB⟩
 case round=>
  clear iT pB;obtain⟨left,cM,HR,HL⟩:=hrel;go_wp2_with (at_next;refine wpList_next_ranges _ rfl _ rfl 3 oO RI (Value.int .i64) (Value.int .i64) J8 ON mb r rs.length D left cM rfl HR.j.rg ?_ ?_)
  ·intro qH u9;have HF:Hid (tb=ib):=by show _=_;rw[fY.j,XP HL.j u9];rfl
   obtain⟨q0,q1⟩:=ar.j _ HR.j.on;clear qH u9;go_wp2_with fail;refine(CA.j _ HR.j.xq).m ?_;rintro e w3 ⟨rfl,h3⟩;have H3:=aa (TZ.j.trans (HR.j.on.trans h3));clear h3 q0 q1;go_wp2_with fail
   all_goals
    go_ret;exact⟨by rw[HF.j];try rfl,H3.j⟩
  ·intro x c kl y yp w3 wY sw gh hv nF yt ah eK aR oZ;obtain⟨uS,rfl,iN⟩:=HR.j.key sw nF;have Iq:=aa iN;have Ud:=aa (p7.j x iN);have eM:Hid (wr.rangeLeft mb r=cM/\wY<cM):=⟨HR.j.rg.left_eq,ah⟩
   have cZ:Hid (pZ U w1 xb mb gb r D N os rs (uC left x) wY w3):=HR.j.next yt eK;have sJ:=aa (λwv=>Jy x Ud.j wv);have sP:=aa (λwv=>iU.j x Ud.j wv);generalize aQ (1,x)=xa at sJ sP;generalize aU (1,x)=xn at sJ sP;obtain⟨fx,DX⟩:=Ze (f x);rw[<-DX] at sP;have UB:=aa DX;clear sw gh hv nF yt ah eK aR uS iN HR DX;have cN:Hid (Zq w3 w3.drew):=(ae.refl _ w3).drew;have af:=aa (ar.j _ (cZ.j.on.trans cN.j));have gE:=cN;have ak:=af;have aw:=af;go_upto_region 4 with fail
   go_region_held3 (λwv=>Zc wv A 0 (.int .i64 (a:Int))/\Zc wv A 1 (.int .i64 (m:Int))) (first|with_reducible exact af.j|with_reducible exact ak.j|with_reducible exact aw.j) (first|(go_at_call 195;refine(sJ.j _).m ?_;rintro e w4 ⟨rfl,bL⟩;have gE:=aa (cN.j.trans bL);clear bL;have ak:=aa (ar.j _ (cZ.j.on.trans gE.j)))|(go_at_call 197;refine(sP.j _).m ?_;rintro e w5 ⟨rfl,eG⟩;have lF:=aa (gE.j.trans eG);clear eG;have aw:=aa (ar.j _ (cZ.j.on.trans lF.j))));clear oZ
   cases fx with
   |true=>
    have HF:Hid (tb=true):=by show _=_;rw[fY.j,OA Iq.j UB.j.symm];rfl
    go_wp2_with fail
    all_goals
     go_ret
     exact⟨by rw[HF.j];try rfl,TZ.j.trans (cZ.j.on.trans lF.j)⟩
   |false=>
    have xm:=aa (cZ.j.quiet lF.j);have Fa:=aa (XO HL.j UB.j.symm);go_wp2_with fail;go_roundw
    case rel=>exact⟨_,wY,xm,Fa⟩
    case measure=>rw[eM.j.1,xm.j.rg.left_eq];exact eM.j.2
end
section
variable {U V S:Nat->Prop} {w w2 wr wx:World} {xb pb mb gb r N cM jJ:Nat} {P:Int} {D:DataW Value} {os rs:Lp} {left ye:Lit->Bool}
theorem abx (a n b m:Int):mi a n b m=mi b m a n:=by
 unfold mi;rw[decide_eq_decide];omega
def smB (n x:Int):Bool:=decide (aU (1,x)<aU (1,n))&&xU (aQ (1,n)) (aU (1,n)) x
theorem zR (w:World) (x y:Value) (T:TypeId):∃w4,w4=w.alloc (.cells #[x,y] T)/\Zq w w4/\∀wv,Zq w4 wv->wv.cell? ⟨w.heap.size,0,none⟩=some x/\wv.cell? ⟨w.heap.size,1,none⟩=some y:=
 ⟨_,rfl,(ae.refl _ w).alloc _,λwv hv=>(xF (ae.keep hv (heap_alloc_last w _) (λh=>h))).1⟩
end
section
variable {U V S:Nat->Prop} {w w2 wr wx:World} {xb pb mb gb r N cM jJ:Nat} {P:Int} {D:DataW Value} {os rs:Lp} {left ye:Lit->Bool}
theorem Z0 (h:cA U w xb mb gb D N os rs) (n:Int) (hn:aj n):Zk 144 #[Zp xb,.int .i64 n] w λe w'=>Zr e (.tuple #[.int .i64 (gL rs n).1,.int .i64 (gL rs n).2])/\Zq w w':=by
 have gh:=h.look n hn;have c0:=h.c0
 cases hi:jP rs n with
 |none=>
  have HM:gL rs n=(0,6):=by unfold gL;rw[hi]
  rw[HM,hi] at gh;rw[HM];have kH:(Instr.lookup 247 (.map (some mb)) (.int .i64 n) true).run prog w=.ok (.tuple #[.int .i64 0,.bool false]) w:=gh;clear h gh hi HM hn;go_enter func144,ntmps144;go_wp2_with fail
  all_goals
   go_ret2
   exact⟨rfl,ae.refl _ _⟩
 |some i=>
  have HM:gL rs n=((rs.getD i (0,0)).2,0):=by unfold gL;rw[hi]
  rw[HM,hi] at gh;rw[HM];dsimp only at gh|-;generalize (rs.getD i (0,0)).2=mk at gh|-;have kH:(Instr.lookup 247 (.map (some mb)) (.int .i64 n) true).run prog w=.ok (.tuple #[.int .i64 mk,.bool true]) w:=gh;clear h gh hi HM hn;go_enter func144,ntmps144;go_wp2_with fail
  all_goals
   go_ret2;exact⟨rfl,ae.refl _ _⟩
theorem aaa (h:cA U w xb mb gb D N os rs) (q:Int):Zk 163 #[Zp xb,.int .i64 q] w λe w'=>Zr e (.tuple #[.agg #[.int .i64 (atR (N:Int) os q).1.1,.int .i64 (atR (N:Int) os q).1.2],.int .i64 (atR (N:Int) os q).2])/\Zq w w':=by
 obtain⟨w1,ag⟩:=Ze (w.alloc (.cells #[.int .i64 0,.int .i64 0] 85));have aB:=Za ag;have hz:w1.heap[w.heap.size]?=some (.cells #[.int .i64 0,.int .i64 0] 85 (0,0)):=by rw[ag];exact heap_alloc_last _ _
 obtain⟨rc,dO⟩:=Ze (w.heap.size);rw[<-dO] at hz;have HO:Hid (Zq w w1/\w.heap.size<=rc):=⟨aB,Zo⟩
 have HS:Hid (∀x y:Value,Zq w ((w1.setCell ⟨rc,0,none⟩ x).setCell ⟨rc,1,none⟩ y)):=λx y=>ae.setCell (ae.setCell HO.j.1 (Or.inr HO.j.2) _) (Or.inr HO.j.2) _
 obtain⟨⟨z0,z1⟩,zf⟩:=C8 hz;have f0:=zf 0;have f1:=zf 1;have hk:=h.quiet aB;have c1:=hk.c1;by_cases h1:q<0
 ·have HG:Hid (atR (N:Int) os q=((0,0),1)):=if_pos (Or.inl h1);clear h hk zf hz aB;go_enter func163,ntmps163;go_upto_region 1 with fail
  rw[<-ag,<-dO];clear ag dO;go_wp2_with fail;refine bodyPost_ret (v:=.tuple #[.agg #[.int .i64 0,.int .i64 0],.int .i64 1]) ?_ rfl ⟨by rw[HG.j],HS.j _ _⟩;simp[results,results163,go_sem,z0,z1]
 ·by_cases h2:(N:Int)<=q
  ·have HG:Hid (atR (N:Int) os q=((0,0),1)):=if_pos (Or.inr h2);clear h hk zf hz aB;go_enter func163,ntmps163;go_upto_region 1 with fail
   rw[<-ag,<-dO];clear ag dO;go_wp2_with fail;refine bodyPost_ret (v:=.tuple #[.agg #[.int .i64 0,.int .i64 0],.int .i64 1]) ?_ rfl ⟨by rw[HG.j],HS.j _ _⟩;simp[results,results163,go_sem,z0,z1]
  ·obtain⟨k,rfl⟩:∃k:Nat,q=(k:Int):=⟨q.toNat,Zo⟩
   have hkN:k<N:=Zo;have HG:=aa (afN (N:Int) os (k:Int) Zo);obtain⟨b0,b1⟩:=hk.F9 k hkN;have bf:0<=(k:Int)/\(k:Int)<(N:Int):=Zo;generalize gz os (k:Int)=x at b0 b1 HG;obtain⟨x0,x1⟩:=x;dsimp only at b0 b1;have h3:¬(k:Int)<0:=Zo;have h4:¬(N:Int)<=(k:Int):=h2;clear h hk zf hz aB h1 h2;go_enter func163,ntmps163;go_upto_region 1 with fail
   rw[<-ag,<-dO];clear ag dO;go_wp2_with fail;refine bodyPost_ret (v:=.tuple #[.agg #[.int .i64 x0,.int .i64 x1],.int .i64 0]) ?_ rfl ⟨by rw[HG.j],HS.j _ _⟩;simp[results,results163,go_sem,z0,z1]
theorem NH (h:nL U w xb P os rs) (n:Int) (hn:aj n):Zk 144 #[Zp xb,.int .i64 n] w λe w'=>Zr e (.tuple #[.int .i64 (gL rs n).1,.int .i64 (gL rs n).2])/\Zq w w':=by
 obtain⟨hw,mb,gb,D,N,rfl,hx⟩:=h;exact Z0 hx n hn
theorem Vw (h:nL U w xb P os rs) (q:Int) (hq:aj q):Zk 163 #[Zp xb,.int .i64 q] w λe w'=>Zr e (.tuple #[.agg #[.int .i64 (atR P os q).1.1,.int .i64 (atR P os q).1.2],.int .i64 (atR P os q).2])/\Zq w w':=by
 obtain⟨hw,mb,gb,D,N,rfl,hx⟩:=h;exact aaa hx q
theorem Yx (N:Nat):fC N []=List.replicate N (0,0):=by
 apply List.ext_getElem
 ·rw[uE,List.length_replicate]
 ·intro k h1 h2;rw[uF,List.getElem_replicate];rfl
end
section
variable {U V S:Nat->Prop} {w w2 wr wx:World} {xb pb mb gb r N cM jJ:Nat} {P:Int} {D:DataW Value} {os rs:Lp} {left ye:Lit->Bool}
theorem aaV:(prog.info? 85).map (λi=>(i.zero,i.size,i.bytes))=some (some (.agg #[.int .i64 0,.int .i64 0]),2,16):=Zx
theorem abY (n:Nat):madeCells #[.int .i64 0,.int .i64 0] (n*2)=(fl aJ (List.replicate n ((0,0):Int×Int))).toArray:=by
 obtain⟨Z,hZ⟩:∃Z:Array Value,Z=#[.int .i64 0,.int .i64 0]:=⟨_,rfl⟩
 rw[<-hZ];have hs:Z.size=2:=by rw[hZ];rfl
 apply Array.ext';apply List.ext_getElem?;intro j;have hl:(fl aJ (List.replicate n ((0,0):Int×Int))).length=n*2:=by rw[j8,List.length_replicate];rfl
 by_cases hj:j<n*2
 ·have h1:j/2<(List.replicate n ((0,0):Int×Int)).length:=by rw[List.length_replicate];omega
  have h2:=vh aJ (List.replicate n ((0,0):Int×Int)) (j/2) (j % 2) h1 (Nat.mod_lt _ Zd);have e:j/2*aJ.sz+j % 2=j:=by show j/2*2+j % 2=j;omega
  rw[e,List.getElem_replicate] at h2;rw[List.toList_toArray,h2];simp only[madeCells,Array.toList_map,Array.toList_range,List.getElem?_map,List.getElem?_range hj,Option.map_some,hs];have hm:j % 2=0\/j % 2=1:=Zo;rcases hm with h|h<;>rw[h,hZ]<;>rfl
 ·rw[List.getElem?_eq_none (by simp[madeCells];omega),List.toList_toArray,List.getElem?_eq_none Zo]
theorem abU (n:Nat) (h:n<=1000) (w:World):(Instr.makeSlice 126 (.int .i64 (n:Int)) (.int .i64 (n:Int))).run prog w=.ok (Zs w.heap.size n n) (w.alloc (.cells (fl aJ (List.replicate n ((0,0):Int×Int))).toArray 85)):=by
 have hi:=aaV
 cases hq:prog.info? 85 with
 |none=>rw[hq] at hi;simp at hi
 |some i=>
  rw[hq] at hi;simp only[Option.map_some,Option.some.injEq,Prod.mk.injEq] at hi;have:=run_make (P:=prog) w 126 85 i _ underlying126 hq hi.1 .i64 .i64 n n Zo Zo (by rw[hi.2.2];omega) Zo;rw[this,hi.2.1];simp only[Int.toNat_natCast,Value.cells];rw[abY]
theorem aak {α:Type} {L:Lay α} {w:World} {g n:Nat} {T:TypeId} {xs:List α} (h:w.heap[g]?=some (.cells (fl L xs).toArray T (0,0))) (hn:n=xs.length) (hm:n<=10000):ai L w 0 T (Zs g n n) xs:=by
 subst hn;refine⟨by rw[j8],Or.inr ⟨g,xs.length,_,rfl,Nat.zero_le _,h,Nat.le_refl _,by unfold maxLen;omega,?_,?_⟩⟩
 ·simp only[List.size_toArray];rw[j8]
 ·rw[List.toList_toArray,<-j8,List.take_length]
theorem YM (k:Int):jP [] k=none:=rfl
theorem Vv (n:Int) (h:1<=n/\n<=256) (w:World):Zk 39 #[.int .i64 n] w λe w'=>∃xb,Zr e (.tuple #[Zp xb,.int .i64 0])/\w.heap.size<=xb/\nL (λk=>k<w.heap.size) w' xb n [] []/\Zq w w':=by
 obtain⟨m,rfl⟩:∃m:Nat,n=(m:Int):=⟨n.toNat,Zo⟩
 have oV:= @run_makeMap prog;have ja:=abU m Zo;have n1:¬(m:Int)<1:=Zo;have n2:¬(256:Int)<(m:Int):=Zo;have HW:=aa (fk.nil h);clear h;go_enter func39,ntmps39;go_wp2_with fail;go_ret2;obtain⟨w1,ag⟩:=Ze (w.alloc (.map #[] 0));obtain⟨w2,aT⟩:=Ze (w1.alloc (.cells (fl aJ (List.replicate m ((0,0):Int×Int))).toArray 85));have s1:w1.heap.size=w.heap.size+1:=by rw[ag];simp
 have s2:w2.heap.size=w.heap.size+2:=by rw[aT];simp[s1]
 have ia:w1.ownsMap prog 3 RI w.heap.size 0 (.map []):=by rw[ag];exact World.ownsMap_made w prog 3 RI
 have bE:w2.ownsMap prog 3 RI w.heap.size 0 (.map []):=by rw[aT];exact ia.alloc _
 have lP:w2.heap[w.heap.size+1]?=some (.cells (fl aJ (List.replicate m ((0,0):Int×Int))).toArray 85 (0,0)):=by
  rw[aT,<-s1];exact heap_alloc_last w1 _
 have aC:Zq w w2:=by rw[aT,ag];exact((ae.refl _ w).alloc _).alloc _
 rw[<-ag,<-aT];obtain⟨w3,dz⟩:=Ze (w2.alloc (.cells #[.map (some w.heap.size),.slice (some ⟨w.heap.size+1,0,none⟩) m m] 249))
 have BJ:w3.heap[w.heap.size+2]?=some (.cells #[.map (some w.heap.size),.slice (some ⟨w.heap.size+1,0,none⟩) m m] 249 (0,0)):=by
  rw[dz,<-s2];exact heap_alloc_last w2 _
 have aN:=Za dz
 have rH:ai aJ w3 0 85 (.slice (some ⟨w.heap.size+1,0,none⟩) m m) (fC m []):=by
  rw[Yx];exact aak (ae.keep aN lP (λh=>h)) (by rw[List.length_replicate]) Zo
 have mE:nL (λk=>k<w.heap.size) w3 (w.heap.size+2) (m:Int) [] []:=⟨HW.j,w.heap.size,w.heap.size+1,.map [],m,rfl,BJ,JV bE aN (λh=>h),λk _=>rfl,(λk i z hk=>by rw[YM] at hk;cases hk),rH,Zo,Zo,Zo,λk hk=>by have:=aC.size;have:=aN.size;omega⟩
 rw[<-dz];exact⟨w.heap.size+2,rfl,Zo,mE,aC.trans aN⟩
end
section
variable {U V S:Nat->Prop} {w w2 w3:World} {xb pb mb gb r N cM jJ:Nat} {P:Int} {D D2:DataW Value} {os rs kW kT:Lp}
theorem acx (hn:(rs.map (·.1)).Nodup) {a b:Int×Int} (ha:a∈rs) (hb:b∈rs) (h:a.1=b.1):a=b:=by
 obtain⟨i,hi,rfl⟩:=List.getElem_of_mem ha;obtain⟨j,hj,rfl⟩:=List.getElem_of_mem hb;have h1:=List.pairwise_iff_getElem.1 hn;rcases Nat.lt_trichotomy i j with h2|h2|h2
 ·exact absurd (by rw[List.getElem_map,List.getElem_map];exact h) (h1 i j (by simpa using hi) (by simpa using hj) h2)
 ·subst h2;rfl
 ·exact absurd (by rw[List.getElem_map,List.getElem_map];exact h.symm) (h1 j i (by simpa using hj) (by simpa using hi) h2)
theorem cA.hk (h:cA U w xb mb gb D N os rs) (k:Int) (hk:aj k):Maps.has D (.int .i64 k)=true↔k∈rs.map (·.1):=by
 rw[h.hs k hk];exact⟨JX,λhm=>by obtain⟨i,hi⟩:=FW hm;rw[hi];rfl⟩
theorem cA.hv (h:cA U w xb mb gb D N os rs) (hn:(rs.map (·.1)).Nodup) (r:Int×Int) (hr:r∈rs) (z:DataW Value):D.atKey (.int .i64 r.1) z=.lit (.int .i64 r.2):=by
 obtain⟨i,hi⟩:=FW (List.mem_map.2 ⟨r,hr,rfl⟩);rw[h.ha r.1 i z hi];obtain⟨hl,hE⟩:=FX hi;rw[wU hl,acx hn (List.getElem_mem hl) hr hE]
theorem cA.Jt (h:cA U w xb mb gb D N os rs) (lO:(kT.map (·.1)).Nodup) (gj:∀r∈kT,aj r.1) {n:Nat} (hm:w3.ownsMap prog 3 RI mb n D2) (eK:w.grownBy w3 (some mb))
  (hk:∀k,aj k->(Maps.has D2 (.int .i64 k)=true↔k∈kT.map (·.1))) (hv:∀r∈kT,∀z,D2.atKey (.int .i64 r.1) z=.lit (.int .i64 r.2)):cA U w3 xb mb gb D2 N os kT/\ae (λj=>¬U j) w w3:=by
 have ho:=Gk eK;obtain⟨cur,hc⟩:=bu h.pg (k:=gb) rfl
 have tH:=abo (ks:=kT.map (·.1)) hm (λk jn hh=>(hk k jn).1 hh) (λk bE=>by
  obtain⟨r,hr,rfl⟩:=List.mem_map.1 bE
  exact(hk _ (gj r hr)).2 bE) lO
 have bE:w3.ownsMap prog 3 RI mb kT.length D2:=by
  have:=abp hm;rw[tH.2,List.length_map] at this;exact this
 refine⟨⟨ae.keep ho h.x (λe=>JW h.x h.m e),bE,λk jn=>?_,λk i z hi=>?_,h.pg.kept ho (λj hj=>by
  have:gb=j:=by simpa[Value.ownBlock] using hj
  rw[<-this];exact λe=>JW hc h.m e),h.ux,h.um,h.ug,λk hu=>Nat.lt_of_lt_of_le (h.low k hu) ho.size⟩,ho.mono (λj _ hj=>by subst hj;exact h.um)⟩
 ·cases hs:jP kT k with
  |some i=>
   have:k∈kT.map (·.1):=JX (by rw[hs];rfl)
   exact(hk k jn).2 this
  |none=>
   cases hh:Maps.has D2 (.int .i64 k) with
   |false=>rfl
   |true=>
    obtain⟨i,hi⟩:=FW ((hk k jn).1 hh);rw[hs] at hi;cases hi
 ·obtain⟨hl,hE⟩:=FX hi;rw[wU hl,<-hE];exact hv _ (List.getElem_mem hl) z
theorem Pj {k n:Int} (h:k≠n):(Lit.int .i64 k)≠(Lit.int .i64 n):=λe=>h (by injection e)
theorem Ph {n:Int} (h:aj n):WideAt.IsKeyLit (.int .i64 n):=oO.key (xZ h)
theorem fk.ri (hw:fk P os rs):∀r∈rs,aj r.1:=λr hr=>by have:=(hw.rk r hr).1;unfold fK at this;unfold aj;omega
theorem cA.added (h:cA U w xb mb gb D N os rs) (Am:(rs.map (·.1)).Nodup) (qC:∀r∈rs,aj r.1) {n y:Int} (oU:aj n) (eH:n∉rs.map (·.1)) {m:Nat} (hm:w3.ownsMap prog 3 RI mb m (D.put (.int .i64 n) (.lit (.int .i64 y)))) (eK:w.grownBy w3 (some mb)):cA U w3 xb mb gb (D.put (.int .i64 n) (.lit (.int .i64 y))) N os (rs++[(n,y)])/\ae (λj=>¬U j) w w3:=by
 refine h.Jt ?_ ?_ hm eK (λk hk=>?_) (λr hr z=>?_)
 ·rw[List.map_append,List.nodup_append];refine⟨Am,by simp,λa ha b hb=>?_⟩;simp only[List.map_cons,List.map_nil,List.mem_singleton] at hb;rw[hb];exact λe=>eH (e▸ha)
 ·intro r hr;rcases List.mem_append.1 hr with hr|hr
  ·exact qC r hr
  ·rw[List.mem_singleton] at hr;rw[hr];exact oU
 ·rw[List.map_append,List.mem_append];by_cases he:k=n
  ·subst he;rw[Maps.has_put_same h.m.isMap (Ph oU)];simp
  ·rw[Maps.has_put_other (Pj he),h.hk k hk];simp[he]
 ·rcases List.mem_append.1 hr with hr|hr
  ·have:r.1≠n:=λe=>eH (List.mem_map.2 ⟨r,hr,e⟩)
   rw[Maps.atKey_put_other (Pj this)];exact h.hv Am r hr z
  ·rw[List.mem_singleton] at hr;subst hr;exact Maps.atKey_put_same h.m.isMap (Ph oU) _ z
theorem cA.aad (h:cA U w xb mb gb D N os rs) (q:Nat) (hq:q<N) (y:Int×Int) (hr:fC N kW=(fC N os).set q y):
  cA U ((w.setCell ⟨gb,q*2,none⟩ (.int .i64 y.1)).setCell ⟨gb,q*2+1,none⟩ (.int .i64 y.2)) xb mb gb D N kW rs/\ae (λj=>¬U j) w ((w.setCell ⟨gb,q*2,none⟩ (.int .i64 y.1)).setCell ⟨gb,q*2+1,none⟩ (.int .i64 y.2)):=by
 obtain⟨h1,ho⟩:=CZ h.pg (uE N os).symm q (by rw[uE];exact hq) y;obtain⟨cur,hc⟩:=bu h.pg (k:=gb) rfl;rw[<-hr] at h1;exact⟨⟨ae.keep ho h.x (λe=>cE hc h.x Zd e.symm),JV h.m ho (λe=>JW hc h.m e.symm),h.hs,h.ha,h1,h.ux,h.um,h.ug,λk hu=>Nat.lt_of_lt_of_le (h.low k hu) ho.size⟩,ho.mono (λj _ hj=>by subst hj;exact h.ug)⟩
end
section
variable {U V S:Nat->Prop} {w w2 w3:World} {xb pb mb gb r N cM jJ:Nat} {P:Int} {D D2:DataW Value} {os rs kW kT:Lp}
theorem Z1 (h:cA U w xb mb gb D N os rs) (Am:(rs.map (·.1)).Nodup) (qC:∀r∈rs,aj r.1) (mB:rs.length<1000000) (n:Int) (hn:aj n) (eH:n∉rs.map (·.1)):Zk 159 #[Zp xb,.agg #[.int .i64 1,.int .i64 n]] w λe w'=>(∃v,Zr e v)/\(∃D2,cA U w' xb mb gb D2 N os (rs++[(n,0)]))/\ae (λj=>¬U j) w w':=by
 obtain⟨w1,ag,aB,ew⟩:=zR w (.int .i64 1) (.int .i64 n) 85;obtain⟨A,hA⟩:=Ze (w.heap.size);rw[<-hA] at ew;obtain⟨q0,q1⟩:=ew _ (ae.refl _ _);have nx:=h.quiet aB;have vZ:=nx.quiet ((ae.refl (λ_=>False) w1).drew);have c0:=nx.c0;obtain⟨w3,aM,nD,wL⟩:=vZ.m.update (t:=247) (e:=3) oO underlying247 (by unfold maxLen;omega) (xZ hn) (val:=.int .i64 0) (d:=.lit (.int .i64 0)) (ps:=[]) (PX (by unfold aj;omega));obtain⟨Lo,BW⟩:=vZ.added Am qC hn eH nD wL;have HF:Hid (cA U w3 xb mb gb (D.put (.int .i64 n) (.lit (.int .i64 0))) N os (rs++[(n,0)])/\ae (λj=>¬U j) w w3):=⟨Lo,(((aB.trans ((ae.refl (λ_=>False) w1).drew)).f).trans BW)⟩
 clear h nx vZ nD wL Lo BW eH hn ew aB Am qC mB;go_enter func159,ntmps159;go_upto_region 1 with fail
 rw[<-ag,<-hA];clear ag hA;go_wp2_with fail
 go_region
 all_goals
  go_wp2_with fail
  (try simp only[Exit.inBlock,Exit.then])
  refine bodyPost_ret (results_none rfl _ _ _) rfl ?_;exact⟨⟨_,rfl⟩,⟨_,HF.j.1⟩,HF.j.2⟩
theorem Z2 (h:cA U w xb mb gb D N os rs) (k:Int) (n:Nat) (hk:k≠1) (hn:n<N) (hr:fC N kW=(fC N os).set n (k,(n:Int))):Zk 159 #[Zp xb,.agg #[.int .i64 k,.int .i64 (n:Int)]] w λe w'=>(∃v,Zr e v)/\cA U w' xb mb gb D N kW rs/\ae (λj=>¬U j) w w':=by
 obtain⟨w1,ag,aB,ew⟩:=zR w (.int .i64 k) (.int .i64 (n:Int)) 85;obtain⟨A,hA⟩:=Ze (w.heap.size);rw[<-hA] at ew;obtain⟨q0,q1⟩:=ew _ (ae.refl _ _);have nx:=h.quiet aB;have vZ:=nx.quiet ((ae.refl (λ_=>False) w1).drew);have c1:=nx.c1;obtain⟨b0,b1⟩:=nx.F9 n hn;have fz:∀j,w1.frozen? ⟨gb,j,none⟩=false:=λj=>nx.pg.fz j
 have fz0:=fz (n*2);have fz1:=fz (n*2+1)
 have HF:Hid (cA U ((w1.drew.setCell ⟨gb,n*2,none⟩ (.int .i64 k)).setCell ⟨gb,n*2+1,none⟩ (.int .i64 (n:Int))) xb mb gb D N kW rs/\ae (λj=>¬U j) w ((w1.drew.setCell ⟨gb,n*2,none⟩ (.int .i64 k)).setCell ⟨gb,n*2+1,none⟩ (.int .i64 (n:Int)))):=by
  obtain⟨a1,a2⟩:=vZ.aad n hn (k,(n:Int)) hr;exact⟨a1,((aB.trans ((ae.refl (λ_=>False) w1).drew)).f).trans a2⟩
 have bf:0<=(n:Int)/\(n:Int)<(N:Int):=Zo;have e1:(k==1)=false:=beq_eq_false_iff_ne.2 hk;clear h nx vZ ew aB fz;go_enter func159,ntmps159;go_upto_region 1 with fail
 rw[<-ag,<-hA];clear ag hA;go_wp2_with fail
 go_region
 all_goals
  go_wp2_with fail;go_end0;exact⟨⟨_,rfl⟩,HF.j.1,HF.j.2⟩
theorem ZU (k n:Int) (h:k=1->fK n) (w:World):Zk 158 #[.agg #[.int .i64 k,.int .i64 n]] w λe w'=>Zr e (.agg #[.int .i64 (aQ (k,n)),.int .i64 (aU (k,n))])/\Zq w w':=by
 obtain⟨w2,aT,aC,bH⟩:=laid_two w (.int .i64 k) (.int .i64 n) (.int .i64 0) (.int .i64 0) 85 304;obtain⟨A,hA⟩:=Ze (w.heap.size);obtain⟨B,hB⟩:=Ze (w.heap.size+1);rw[<-hA] at bH;have lp:A+1=B:=Zo;rw[lp] at bH;have aL:Hid (Zq w w2/\w.heap.size<=B):=⟨aC,Zo⟩
 have HS:Hid (∀wv,Zq w2 wv->∀x y:Value,Zq w ((wv.setCell ⟨B,0,none⟩ x).setCell ⟨B,1,none⟩ y)):=λwv hv x y=>ae.setCell (ae.setCell (aL.j.1.trans hv) (Or.inr aL.j.2) _) (Or.inr aL.j.2) _
 have mS:Hid (∀wv,Zq w2 wv->∀j,wv.frozen? ⟨B,j,none⟩=false):=λwv hv j=>by
  have h2:w2.heap[B]?=some (.cells #[.int .i64 0,.int .i64 0] 304 (0,0)):=by
   rw[aT,hB];have:=heap_alloc_last (w.alloc (.cells #[.int .i64 k,.int .i64 n] 85)) (.cells #[.int .i64 0,.int .i64 0] 304);simpa using this
  exact(xF (ae.keep hv h2 (λh=>h))).2 j
 have HC:=aa bH;clear bH aC lp;by_cases hk:k=1
 ·subst hk;have sJ:=aa (λwv=>Jy n (h rfl) wv);generalize aQ (1,n)=xa at sJ|-;generalize aU (1,n)=xn at sJ|-;clear h;obtain⟨⟨a0,a1⟩,b0,b1⟩:=HC.j _ (ae.refl _ _);go_enter func158,ntmps158;go_upto_region 1 with fail
  rw[<-aT,<-hB,<-hA];clear aT hA hB;go_wp2_with fail;refine(sJ.j _).m ?_;rintro e w3 ⟨rfl,h3⟩;have H3:=aa h3;obtain⟨⟨y0,y1⟩,z0,z1⟩:=HC.j _ h3;have f0:=mS.j _ h3 0;have f1:=mS.j _ h3 1;clear h3 a0 a1 b0 b1 y0 y1;go_wp2_with fail;refine bodyPost_ret (v:=.agg #[.int .i64 xa,.int .i64 xn]) ?_ rfl ⟨rfl,HS.j _ H3.j _ _⟩;simp[results,results158,go_sem,z0,z1]
 ·have e1:(k==1)=false:=beq_eq_false_iff_ne.2 hk;have eA:aQ (k,n)=n:=if_neg hk;have eN:aU (k,n)=1:=if_neg hk;rw[eA,eN];obtain⟨⟨a0,a1⟩,z0,z1⟩:=HC.j _ (ae.refl _ _);have f0:=mS.j _ (ae.refl _ _) 0;have f1:=mS.j _ (ae.refl _ _) 1;clear h eA eN;go_enter func158,ntmps158;go_upto_region 1 with fail
  rw[<-aT,<-hB,<-hA];clear aT hA hB;go_wp2_with fail;refine bodyPost_ret (v:=.agg #[.int .i64 n,.int .i64 1]) ?_ rfl ⟨rfl,HS.j _ (ae.refl _ _) _ _⟩;simp[results,results158,go_sem,z0,z1]
end
section
variable {U V S:Nat->Prop} {w w2 w3:World} {xb pb mb gb r N cM jJ:Nat} {P:Int} {D D2:DataW Value} {os rs kW kT:Lp}
def qn (P:Int) (o:Int×Int):Bool:=decide (¬(o.2<0\/(o.1=1/\2304<=o.2))/\¬(aQ o % aU o≠0\/P - aU o<aQ o))
theorem ag0 (P:Int) (os rs:Lp) (o:Int×Int) (hk:1<=o.1/\o.1<=8):aV P os rs o=if qn P o=false then 1 else if (os.any (dD o) || rs.any (λr=>dD o (1,r.1)))=true then 7 else 0:=by
 unfold aV qn;rw[if_neg Zo];by_cases h1:o.2<0\/(o.1=1/\2304<=o.2)
 ·rw[if_pos h1,if_pos (decide_eq_false (λh=>h.1 h1))]
 ·rw[if_neg h1];by_cases h2:aQ o % aU o≠0\/P - aU o<aQ o
  ·rw[if_pos h2,if_pos (decide_eq_false (λh=>h.2 h2))]
  ·rw[if_neg h2,decide_eq_true (p:=¬(o.2<0\/(o.1=1/\2304<=o.2))/\¬(aQ o % aU o≠0\/P - aU o<aQ o)) ⟨h1,h2⟩,if_neg (c:=true=false) Zd]
theorem YH {k n:Int} (hk:k≠1) (h0:¬n<0):qn P (k,n)=decide (n<P):=by
 unfold qn;rw[vM hk,zL hk,decide_eq_decide];simp only[Int.emod_one];omega
theorem YG {n:Int} (h:fK n):qn P (1,n)=(decide (aQ (1,n) % aU (1,n)=0)&&decide (aQ (1,n)+aU (1,n)<=P)):=by
 unfold qn;unfold fK at h;rw[<-Bool.decide_and,decide_eq_decide];simp only[true_and];omega
theorem ZT (h:cA U w xb mb gb D N os rs) (hN:N<=256) (k n:Int) (hn:aj n):Zk 156 #[Zp xb,.agg #[Zi k,Zi n]] w λe w'=>Zr e (.bool (qn (N:Int) (k,n)))/\Zq w w':=by
 obtain⟨w1,ag,aB,ew⟩:=zR w (Zi k) (Zi n) 85;obtain⟨A,hA⟩:=Ze (w.heap.size);rw[<-hA] at ew;obtain⟨q0,q1⟩:=ew _ (ae.refl _ _);have IM:=aa ew;have bX:=aa aB;have tU:=aa (h.quiet aB);have c1:=tU.j.c1;clear h ew aB;by_cases h0:n<0
 ·have HE:Hid (qn (N:Int) (k,n)=false):=decide_eq_false (λh=>h.1 (Or.inl h0));rw[HE.j];clear hn HE;go_enter func156,ntmps156;go_upto_region 1 with fail
  rw[<-ag,<-hA];clear ag hA;go_wp2_with fail
  all_goals
   go_ret;exact⟨rfl,bX.j⟩
 ·by_cases hk:k=1
  ·subst hk;have aK:=aa (λwv=>Pf n Zo hn wv);obtain⟨nq,BT⟩:=Ze (n/256);obtain⟨nr,DK⟩:=Ze (n % 256);rw[<-BT,<-DK] at aK;by_cases h8:8<nq
   ·have HE:Hid (qn (N:Int) (1,n)=false):=decide_eq_false (λh=>h.1 (Or.inr ⟨rfl,by simp only;omega⟩));rw[HE.j];clear hn HE BT DK;go_enter func156,ntmps156;go_upto_region 1 with fail
    rw[<-ag,<-hA];clear ag hA;go_wp2_with fail;refine(aK.j _).e1 ?_;go_wp2_with fail
    all_goals
     go_ret;exact⟨rfl,bX.j⟩
   ·have mx:fK n:=by unfold fK;omega
    have sJ:=aa (λwv=>Jy n mx wv);have AM:=Jr mx;have HE:=aa (YG (P:=(N:Int)) mx);obtain⟨m0,oW⟩:=Ze (aQ (1,n) % aU (1,n));have yq:(aQ (1,n)).tmod (aU (1,n))=m0:=by rw[oW];exact Int.tmod_eq_emod_of_nonneg AM.1
    have fa:0<=m0/\m0<256:=by
     have h1:=Int.emod_nonneg (aQ (1,n)) (b:=aU (1,n)) Zo;have h2:=Int.emod_lt_of_pos (aQ (1,n)) (b:=aU (1,n)) Zo;omega
    have rE:=Zh m0 Zo;rw[<-oW] at HE;generalize aQ (1,n)=a0 at sJ HE yq AM;generalize aU (1,n)=n0 at sJ HE yq AM;have uV:(n0==0)=false:=by rw[beq_eq_false_iff_ne];omega
    have RG:¬n0=0:=Zo;have nC:(n0== -1)=false:=by rw[beq_eq_false_iff_ne];omega
    have iI:=aa (λwv=>F7 a0 n0 (by rw[IntKind.wrap_i64];omega) wv);obtain⟨en,oZ⟩:=Ze (a0+n0);rw[<-oZ] at iI HE;clear hn BT DK mx AM oW oZ;have SI:¬8<nq:=h8;by_cases b1:m0=0
    ·subst b1;have gy:Hid (qn (N:Int) (1,n)=decide (en<=(N:Int))):=by show _=_;rw[HE.j];simp
     obtain⟨eb,heb⟩:=Ze (decide (en<=(N:Int)));rw[gy.j];clear HE gy;go_enter func156,ntmps156;go_upto_region 1 with fail
     rw[<-ag,<-hA];clear ag hA;go_wp2_with fail;refine(aK.j _).e1 ?_;go_wp2_with fail;refine(sJ.j _).m ?_;rintro e w3 ⟨rfl,aN⟩;have Ir:=aa (tU.j.quiet aN);have bD:=aa (bX.j.trans aN);clear aN q0 q1 c1;obtain⟨w4,eF,bL,yH⟩:=zR w3 (Zi a0) (Zi n0) 304;obtain⟨B,hB⟩:=Ze (w3.heap.size);rw[<-hB] at yH;have A9:=aa (Ir.j.quiet bL);have rW:=aa (bD.j.trans bL);have ar:Hid (∀wv,Zq w4 wv->Zc wv B 0 (Zi a0)/\Zc wv B 1 (Zi n0)/\Zc wv xb 1 (Zs gb N N)):=λwv hv=>⟨(yH wv hv).1,(yH wv hv).2,(A9.j.quiet hv).c1⟩
     clear yH bL;go_upto_region 9 with fail
     rw[<-eF,<-hB];clear eF hB;have cN:Hid (Zq w4 w4.drew):=(ae.refl _ w4).drew;have af:=aa (ar.j _ cN.j);have ak:=af;go_region_held3 (λwv=>Zc wv B 0 (Zi a0)/\Zc wv B 1 (Zi n0)/\Zc wv xb 1 (Zs gb N N)) (with_reducible (first|exact af.j|exact ak.j)) (first|(go_at_call 196;refine(iI.j _).m ?_;rintro e w5 ⟨rfl,eG⟩;have gE:=aa (cN.j.trans eG);clear eG;have ak:=aa (ar.j _ gE.j)));go_wp2_with fail
     all_goals
      go_ret;exact⟨by first|rfl|simp_all,rW.j.trans gE.j⟩
    ·have MC:(m0==0)=false:=beq_eq_false_iff_ne.2 b1;have gy:Hid (qn (N:Int) (1,n)=false):=by show _=_;rw[HE.j,decide_eq_false b1];rfl
     rw[gy.j];clear HE gy;go_enter func156,ntmps156;go_upto_region 1 with fail
     rw[<-ag,<-hA];clear ag hA;go_wp2_with fail;refine(aK.j _).e1 ?_;go_wp2_with fail;refine(sJ.j _).m ?_;rintro e w3 ⟨rfl,aN⟩;have bD:=aa (bX.j.trans aN);clear aN q0 q1 c1;obtain⟨w4,eF,bL,yH⟩:=zR w3 (Zi a0) (Zi n0) 304;obtain⟨B,hB⟩:=Ze (w3.heap.size);rw[<-hB] at yH;have rW:=aa (bD.j.trans bL);obtain⟨p0,p1⟩:=yH _ (ae.refl _ _);clear yH bL;go_upto_region 9 with fail
     rw[<-eF,<-hB];clear eF hB;go_quiet (fail);go_wp2_with fail
     all_goals
      go_ret;exact⟨rfl,rW.j.trans ((ae.refl _ _).drewN _)⟩
  ·have HE:=aa (YH (P:=(N:Int)) hk h0);have e1:(k !=1)=true:=by simpa using hk
   have e2:(k==1)=false:=by simpa using hk
   rw[HE.j];clear HE hn;go_enter func156,ntmps156;go_upto_region 1 with fail
   rw[<-ag,<-hA];clear ag hA;go_wp2_with fail;go_quiet (fail);go_wp2_with fail
   all_goals
    go_ret;exact⟨rfl,bX.j.trans ((ae.refl _ _).drewN _)⟩
end
section
variable {U V S:Nat->Prop} {w w2 w3:World} {xb pb mb gb r N cM jJ:Nat} {P:Int} {D D2:DataW Value} {os rs kW kT:Lp}
theorem WX (hw:fk P os rs) (o:Int×Int):(os.any (dD o) || rs.any (λr=>dD o (1,r.1)))=sZ os rs (aQ o) (aU o):=by
 unfold sZ jB;rw[Bool.or_comm];congr 1
 ·congr 1
  funext r
  unfold xU dD;rw[abx]
 ·rw[Bool.eq_iff_iff,List.any_eq_true,List.any_eq_true];refine exists_congr λx=>and_congr_right λhx=>?_
  have hk:=hw.ok x hx;unfold dD mi;rw[vM (o:=x) Zo,zL (o:=x) Zo,decide_eq_true_iff,decide_eq_true_iff];omega
theorem YI {o:Int×Int} (h:qn P o=true):(o.1=1->fK o.2)/\0<=aQ o/\1<=aU o/\aQ o+aU o<=P/\(o.1≠1->aQ o=o.2):=by
 have h1:=of_decide_eq_true h
 have hr:o.1=1->fK o.2:=λhe=>by
  have:=h1.1;unfold fK;omega
 have hn:=zM hr;refine⟨hr,?_,hn.1,?_,λhe=>vM he⟩
 ·by_cases he:o.1=1
  ·exact(JE he).1
  ·rw[vM he];have:=h1.1;omega
 ·have:=h1.2;omega
theorem WW {n:Int} (hr:fK n) (h:sZ os rs (aQ (1,n)) (aU (1,n))=false):n∉rs.map (·.1):=λhm=>by
 unfold sZ at h;rw[Bool.or_eq_false_iff] at h;have hb:=Jr hr;have h2:xU (aQ (1,n)) (aU (1,n)) n=true:=decide_eq_true Zo;have:=OA (f:=xU (aQ (1,n)) (aU (1,n))) hm h2;rw[h.1] at this;cases this
theorem WV {a m:Int} (h:sZ os rs a m=false) {q:Int} (hq:a<=q/\q<a+m):∀x∈os,x.2≠q:=λx hx he=>by
 unfold sZ jB at h;rw[Bool.or_eq_false_iff,List.any_eq_false,List.any_eq_false] at h;exact h.2 x hx (decide_eq_true (by rw[he];exact hq))
theorem Yr {o:Int×Int} (hn:(os.map (·.2)).Nodup) (hf:∀x∈os,x.2≠o.2) (h0:0<=o.2):fC N (os++[o])=(fC N os).set o.2.toNat o:=by
 refine Yy ?_ (λk hk=>?_)
 ·rw[Pp hn hf,if_pos Zo]
 ·rw[Pp hn hf,if_neg Zo]
theorem Vy (h:nL U w xb P os rs) (k n:Int) (hk:aj k) (hn:aj n):Zk 99 #[Zp xb,.agg #[Zi k,Zi n]] w λe w'=>Zr e (Zi (aV P os rs (k,n)))/\nL U w' xb P (fX P os rs (k,n)) (ij P os rs (k,n))/\Zn U w w':=by
 have HK:Hid (aV P os rs (k,n)≠0->∀wv,Zq w wv->nL U wv xb P (fX P os rs (k,n)) (ij P os rs (k,n))/\Zn U w wv):=λhe wv hv=>by
  obtain⟨e1,e2⟩:=yX (k,n) he;rw[e1,e2];exact⟨h.step hv (λ_ _ h=>h.elim) (λ_ h=>Or.inl h),hv.f⟩
 have Bb:=aa (h.wf.add (k,n));obtain⟨hw,mb,gb,D,N,rfl,hx⟩:=h;have hp:=hw.p;obtain⟨w1,ag,aB,ew⟩:=zR w (Zi k) (Zi n) 85;obtain⟨A,hA⟩:=Ze (w.heap.size);rw[<-hA] at ew;have IM:=aa ew;have bX:=aa aB;have tU:=aa (hx.quiet aB);have Cz:=aa (λwv=>adr k wv);obtain⟨q0,q1⟩:=ew _ (ae.refl _ _);have EV:Hid (∀wv,Zq w1 wv->Zk 156 #[Zp xb,.agg #[Zi k,Zi n]] wv λe w'=>Zr e (.bool (qn (N:Int) (k,n)))/\Zq wv w'):=λwv hv=>ZT (tU.j.quiet hv) Zo k n hn
 clear hx ew aB;by_cases iC:1<=k/\k<=8
 ·rw[decide_eq_true iC] at Cz;have sB:=ag0 (N:Int) os rs (k,n) iC;rw[WX hw] at sB
  cases wC:qn (N:Int) (k,n) with
  |false=>
   rw[wC] at EV;have HE:Hid (aV (N:Int) os rs (k,n)=1):=by show _=_;rw[sB,wC];rfl
   have lE:=aa (HK.j (by rw[HE.j];decide));rw[HE.j];clear HK sB wC iC hw hk hn hp HE;go_enter func99,ntmps99;go_upto_region 1 with fail
   rw[<-ag,<-hA];clear ag hA;go_wp2_with fail;refine(Cz.j _).e1 ?_;go_wp2_with fail;refine(EV.j _ (ae.refl _ _)).m ?_;rintro e w3 ⟨rfl,h3⟩;have H3:=aa (bX.j.trans h3);clear h3 q0 q1;go_wp2_with fail
   all_goals
    go_ret
    exact⟨rfl,(lE.j _ H3.j).1,(lE.j _ H3.j).2⟩
  |true=>
   rw[wC] at EV;obtain⟨b1,b2,b3,b4,b5⟩:=YI wC;have M4:=aa (λwv=>ZU k n b1 wv);obtain⟨a,ha⟩:∃a:Nat,aQ (k,n)=(a:Int):=⟨(aQ (k,n)).toNat,Zo⟩
   obtain⟨m,hm⟩:∃m:Nat,aU (k,n)=(m:Int):=⟨(aU (k,n)).toNat,Zo⟩
   have fY:Hid (∀wv,Zq w1 wv->Zk 157 #[Zp xb,.agg #[Zi (a:Int),Zi (m:Int)]] wv λe w'=>Zr e (.bool (sZ os rs (a:Int) (m:Int)))/\Zq wv w'):=λwv hv=>ZQ (tU.j.quiet hv) hw a m Zo Zo
   rw[ha,hm] at M4 sB
   cases gY:sZ os rs (a:Int) (m:Int) with
   |true=>
    rw[gY] at fY;have HE:Hid (aV (N:Int) os rs (k,n)=7):=by show _=_;rw[sB,wC,gY];rfl
    have lE:=aa (HK.j (by rw[HE.j];decide));rw[HE.j];clear HK sB wC iC hw hk hn hp HE b1 b2 b3 b4 b5 ha hm gY;go_enter func99,ntmps99;go_upto_region 1 with fail
    rw[<-ag,<-hA];clear ag hA;go_wp2_with fail;refine(Cz.j _).e1 ?_;go_wp2_with fail;refine(EV.j _ (ae.refl _ _)).m ?_;rintro e w3 ⟨rfl,h3⟩;have H3:=aa h3;obtain⟨r0,r1⟩:=IM.j _ h3;clear h3 q0 q1;go_wp2_with fail;refine(M4.j _).m ?_;rintro e w4 ⟨rfl,h4⟩;have H4:=aa (H3.j.trans h4);clear h4 r0 r1;go_wp2_with fail;refine(fY.j _ H4.j).m ?_;rintro e w5 ⟨rfl,h5⟩;have H5:=aa (bX.j.trans (H4.j.trans h5));clear h5;go_wp2_with fail
    all_goals
     go_ret
     exact⟨rfl,(lE.j _ H5.j).1,(lE.j _ H5.j).2⟩
   |false=>
    rw[gY] at fY;have he:aV (N:Int) os rs (k,n)=0:=by rw[sB,wC,gY];rfl
    rw[<-ha,<-hm] at gY
    have HLY:Hid (∀wv,Zq w wv->cA U wv xb mb gb D N os rs->Zk 159 #[Zp xb,.agg #[Zi k,Zi n]] wv λe w'=>(∃v,Zr e v)/\nL U w' xb (N:Int) (fX (N:Int) os rs (k,n)) (ij (N:Int) os rs (k,n))/\Zn U w w'):=λwv hv QR=>by
     by_cases og:k=1
     ·subst og;have e6:fX (N:Int) os rs (1,n)=os:=if_neg (λe=>e.2 rfl);have e7:ij (N:Int) os rs (1,n)=rs++[(n,0)]:=if_pos ⟨he,rfl⟩;have uT:=Bb.j;rw[e6,e7] at uT|-;refine(Z1 QR hw.rn hw.ri (by have:=hw.lr;omega) n hn (WW (b1 rfl) gY)).m ?_;rintro e w' ⟨h1,⟨D2,h2⟩,h3⟩;exact⟨h1,⟨uT,mb,gb,D2,N,rfl,h2⟩,(hv.f).trans h3⟩
     ·have e6:fX (N:Int) os rs (k,n)=os++[(k,n)]:=if_pos ⟨he,og⟩;have e7:ij (N:Int) os rs (k,n)=rs:=if_neg (λe=>og e.2);have uT:=Bb.j;rw[e6,e7] at uT|-;have b6:=b5 og;simp only at b6;obtain⟨q,rfl⟩:∃q:Nat,n=(q:Int):=⟨n.toNat,Zo⟩
      have dM:=Yr (N:=N) (o:=(k,(q:Int))) hw.on (WV gY (by simp only;omega)) (by simp only;omega);have e8:((k,(q:Int)).2).toNat=q:=by simp
      rw[e8] at dM;refine(Z2 QR k q og Zo dM).m ?_;rintro e w' ⟨h1,h2,h3⟩;exact⟨h1,⟨uT,mb,gb,D,N,rfl,h2⟩,(hv.f).trans h3⟩
    rw[he];clear HK sB wC iC hw hk hn hp b1 b2 b3 b4 b5 ha hm gY he Bb;go_enter func99,ntmps99;go_upto_region 1 with fail
    rw[<-ag,<-hA];clear ag hA;go_wp2_with fail;refine(Cz.j _).e1 ?_;go_wp2_with fail;refine(EV.j _ (ae.refl _ _)).m ?_;rintro e w3 ⟨rfl,h3⟩;have H3:=aa h3;obtain⟨r0,r1⟩:=IM.j _ h3;clear h3 q0 q1;go_wp2_with fail;refine(M4.j _).m ?_;rintro e w4 ⟨rfl,h4⟩;have H4:=aa (H3.j.trans h4);clear h4 r0 r1;go_wp2_with fail;refine(fY.j _ H4.j).m ?_;rintro e w5 ⟨rfl,h5⟩;have H5:=aa (H4.j.trans h5);obtain⟨r0,r1⟩:=IM.j _ H5.j;clear h5;go_wp2_with fail;refine(HLY.j _ (bX.j.trans H5.j) (tU.j.quiet H5.j)).m ?_;rintro e w6 ⟨⟨v,rfl⟩,h6,h7⟩;have H6:=aa (⟨h6,h7⟩:_/\_);clear h6 h7 r0 r1;go_wp2_with fail
    all_goals
     go_ret;exact⟨rfl,H6.j.1,H6.j.2⟩
 ·rw[decide_eq_false iC] at Cz;have HE:Hid (aV (N:Int) os rs (k,n)=12):=by show _=_;unfold aV;rw[if_pos (by simp only;omega)]
  have lE:=aa (HK.j (by rw[HE.j];decide));rw[HE.j];clear HK iC hw hk hn hp HE;go_enter func99,ntmps99;go_upto_region 1 with fail
  rw[<-ag,<-hA];clear ag hA;go_wp2_with fail;refine(Cz.j _).e1 ?_;go_wp2_with fail
  all_goals
   go_ret;exact⟨rfl,(lE.j _ bX.j).1,(lE.j _ bX.j).2⟩
end
section
variable {U V S:Nat->Prop} {w w2:World} {xb mb:Nat} {D:DataW Value} {G:Int->Nat} {vt:Value} {vq:List Value} {ts:Lp} {t:Nat} {lf:Int} {es:List Et} {Q:Nat->List Int} {ck:Nat}
theorem dJ.ZN (h:dJ U w xb mb D G vt vq ts t lf es Q) (gZ:(es.map (·.num)).Nodup) {i:Nat} (hi:i<es.length) (y:Et) (hy:y.num=es[i].num) (hd:y.bT=es[i].bT) (hp:y.prio=es[i].prio) {b:Bool} (hb:decide (y.bV≠0)=b) {l:Int} (hl:y.left=l):
  dJ U ((w.setCell ⟨G es[i].num,3,none⟩ (.bool b)).setCell ⟨G es[i].num,4,none⟩ (Zi l)) xb mb D G vt vq ts t lf (es.set i y) Q/\Zn U w ((w.setCell ⟨G es[i].num,3,none⟩ (.bool b)).setCell ⟨G es[i].num,4,none⟩ (Zi l)):=by
 refine h.XJ gZ hi y hy ?_ ?_
 ·rw[hy];exact ae.setCell (S:=λk=>k=G es[i].num) (ae.setCell (S:=λk=>k=G es[i].num) (ae.refl _ w) (Or.inl rfl) _) (Or.inl rfl) _
 ·have h1:=heap_setCell_same _ _ 3 _ _ (.bool b) (h.rn _ (List.getElem_mem hi));have h2:=heap_setCell_same _ _ 4 _ _ (Zi l) h1;rw[hy,h2];subst hb;subst hl
  have e:qm y=((qm es[i]).setIfInBounds 3 (.bool (decide (y.bV≠0)))).setIfInBounds 4 (Zi y.left):=by
   unfold qm;rw[hy,hd,hp];rfl
  rw[e]
theorem aaR (h:ku es ck) {i:Nat} (hi:i<es.length):∃d p:Nat,es[i].bT=(d:Int)/\es[i].prio=(p:Int)/\d<8/\p<8:=by
 have:=h.ok _ (List.getElem_mem hi);exact⟨es[i].bT.toNat,es[i].prio.toNat,Zo,Zo,Zo,Zo⟩
theorem lz.O1 (hq:ED es Q) (h:dJ U w xb mb D G vt vq ts t lf es Q) (j:Nat) (hj:j<64):(Q j).length<=1000000:=by
 have:=(hq j hj).len;have:=h.nl;omega
theorem jq (d p j:Nat) (hd:d<8) (hp:p<8):(((d:Int)=((j/8:Nat):Int))/\((p:Int)=((j % 8:Nat):Int)))↔j=d*8+p:=by
 constructor
 ·rintro⟨h1,h2⟩;omega
 ·rintro rfl;omega
theorem ED.join (hq:ED es Q) (hw:ku es ck) {i d p:Nat} (hi:i<es.length) (y:Et) (h0:es[i].bV=0) (hd:y.bT=(d:Int)) (hp:y.prio=(p:Int)) (AJ:d<8) (Ap:p<8) (hc:y.bV=(ck:Int)+1):ED (es.set i y) (λj=>if j=d*8+p then Q (d*8+p)++[y.num] else Q j):=by
 intro j hj;have h1:=NQ.join hi y h0 Zo (λe he=>by have:=hw.ok e he;omega) (hq j hj);by_cases e:j=d*8+p
 ·have:=(jq d p j AJ Ap).2 e;rw[hd,hp,if_pos this] at h1;show NQ _ _ _ (if j=d*8+p then _ else _);rw[if_pos e,<-e];exact h1
 ·have:¬_:=λh=>e ((jq d p j AJ Ap).1 h)
  rw[hd,hp,if_neg this,List.append_nil] at h1;show NQ _ _ _ (if j=d*8+p then _ else _);rw[if_neg e];exact h1
def agI (e:Et):Et:={e with left:=0,bV:=0}
theorem VI (h:lz U w xb G ts t lf es ck) {n:Int} {i:Nat} (hi:dB es n=some i) (h0:(es.getD i .df).bV=0):Zk 205 #[Zp xb,.pointer (some ⟨G n,0,none⟩)] w λe w'=>(∃x,Zr e x)/\lz U w' xb G ts t lf (es.set i (iM ck (es.getD i .df))) (ck+1)/\Zn U w w':=by
 obtain⟨hw,wk,mb,D,vt,vq,Q,hq,hx⟩:=h;obtain⟨hl,hn,r5,_⟩:=hx.r5 hi;rw[kK hl] at h0|-;obtain⟨d,p,ed,ep,AJ,Ap⟩:=aaR hw hl;have oX:=hw.ok _ (List.getElem_mem hl);have hj:d*8+p<64:=Zo;obtain⟨h1,o1⟩:=hx.ZN hw.nd hl (iM ck es[i]) rfl rfl rfl (b:=true) (decide_eq_true (by show(ck:Int)+1≠0;omega)) (l:=5) rfl;rw[hn] at h1 o1;have a3:=r5.c3;have a4:=r5.c4;have f3:=r5.fz 3;have f4:=r5.fz 4;obtain⟨g,hg⟩:=Ze (G n);rw[<-hg] at h1 o1 a3 a4 f3 f4|-;obtain⟨w1,ag⟩:=Ze ((w.setCell ⟨g,3,none⟩ (.bool true)).setCell ⟨g,4,none⟩ (Zi 5));rw[<-ag] at h1 o1;have kH:i<(es.set i (iM ck es[i])).length:=by rw[List.length_set];exact hl
 have gj:dB (es.set i (iM ck es[i])) n=some i:=by rw[Me hl (iM ck es[i]) rfl];exact hi
 obtain⟨_,_,s5,_⟩:=h1.r5 gj;have b1:=s5.c1;have b2:=s5.c2;rw[List.getElem_set_self] at b1 b2;have MC:w1.cell? ⟨g,1,none⟩=some (Zi (d:Int)):=by rw[hg,<-ed];exact b1
 have TM:w1.cell? ⟨g,2,none⟩=some (Zi (p:Int)):=by rw[hg,<-ep];exact b2
 have HQ:=aa (ZB (xb:=xb) w1 g d p AJ Ap MC TM);have yu:=lz.O1 hq hx _ hj;have Re:ku (es.set i (iM ck es[i])) (ck+1):=hw.put hl es[i].prio ⟨oX.2.2.2.1,oX.2.2.2.2.1⟩;have Uh:=aa (hq.join hw hl (iM ck es[i]) h0 ed ep AJ Ap rfl)
 have HK:Hid (∀wx,Zq w1 wx->Zk 240 #[.pointer (some ⟨xb,4+(d*8+p),none⟩),Zp g] wx λe w'=>(∃x,Zr e x)/\lz U w' xb G ts t lf (es.set i (iM ck es[i])) (ck+1)/\Zn U w w'):=by
  intro wx ho;have oQ:=h1.quiet ho;refine(ZE (oQ.queue _ hj yu) g).m ?_;rintro e w' ⟨he,hT⟩
  have e9:(Q (d*8+p)).map G++[g]=(Q (d*8+p)++[(iM ck es[i]).num]).map G:=by
   rw[List.map_append,hg];show _=_++[G es[i].num]
   rw[hn]
  rw[e9] at hT;obtain⟨⟨NS,h3⟩,o3⟩:=oQ.vI hj hT;exact⟨he,⟨Re,wk,_,_,_,_,_,Uh.j,h3⟩,(o1.trans (ho.f)).trans o3⟩
 clear hx h1 o1 r5 s5 b1 b2 MC TM hi gj kH hn hg hw wk hq oX Re Uh yu h0 ed ep;go_enter func205,ntmps205;go_upto_region 1 with fail
 rw[<-ag];clear ag;go_wp2_with fail;refine HQ.j.m ?_;rintro e wx ⟨rfl,ho⟩;go_wp2_with fail;refine(HK.j _ ho).m ?_;rintro e w' ⟨⟨x,rfl⟩,hr⟩;go_wp2_with fail
 all_goals
  go_end0;exact⟨⟨_,rfl⟩,hr⟩
end
section
variable {U V S:Nat->Prop} {w w2:World} {xb mb:Nat} {D:DataW Value} {G:Int->Nat} {vt:Value} {vq:List Value} {ts:Lp} {t:Nat} {lf:Int} {es:List Et} {Q:Nat->List Int} {ck:Nat}
def fsV (G:Int->Nat) (es:List Et) (d:Int):Value:=match Mw es d with|some i=>.pointer (some ⟨G (es.getD i .df).num,0,none⟩)|none=>.pointer none
end
section
variable {U V S:Nat->Prop} {w w2:World} {xb mb:Nat} {D:DataW Value} {G:Int->Nat} {vt:Value} {vq:List Value} {ts:Lp} {t:Nat} {lf:Int} {es:List Et} {Q:Nat->List Int} {ck:Nat}
end
section
variable {U V S:Nat->Prop} {w w2 w3:World} {xb mb n:Nat} {D D2:DataW Value} {G:Int->Nat} {vt:Value} {vq:List Value} {ts:Lp} {t:Nat} {lf:Int} {es ig:List Et} {Q:Nat->List Int} {ck:Nat}
theorem Eo {k:Int}:(dB es k).isSome=true↔k∈es.map (·.num):=by
 constructor
 ·intro h;obtain⟨i,hi⟩:=Option.isSome_iff_exists.1 h;obtain⟨hl,hE⟩:=wX hi;exact List.mem_map.2 ⟨_,List.getElem_mem hl,hE⟩
 ·intro h;obtain⟨e,he,rfl⟩:=List.mem_map.1 h
  cases hi:dB es e.num with
  |some i=>rfl
  |none=>have:=mu hi e he;simp at this
theorem dJ.hk (h:dJ U w xb mb D G vt vq ts t lf es Q) (k:Int) (hk:aj k):Maps.has D (.int .i64 k)=true↔k∈es.map (·.num):=by
 rw[h.hs k hk];exact Eo
theorem dJ.hv (h:dJ U w xb mb D G vt vq ts t lf es Q) (e:Et) (he:e∈es) (z:DataW Value):D.atKey (.int .i64 e.num) z=.held (.pointer (some ⟨G e.num,0,none⟩)):=by
 obtain⟨i,hi⟩:=Option.isSome_iff_exists.1 (Eo.2 (List.mem_map.2 ⟨e,he,rfl⟩));exact h.ha _ i z hi
theorem dJ.Jt (h:dJ U w xb mb D G vt vq ts t lf es Q) (lO:(ig.map (·.num)).Nodup) (gj:∀e∈ig,aj e.num) {n:Nat} (hm:w3.ownsMap prog 3 RP mb n D2) (eK:w.grownBy w3 (some mb))
  (hk:∀k,aj k->(Maps.has D2 (.int .i64 k)=true↔k∈ig.map (·.num))) (hv:∀e∈ig,∀z,D2.atKey (.int .i64 e.num) z=.held (.pointer (some ⟨G e.num,0,none⟩)))
  (hr:∀e∈ig,w.heap[G e.num]?=some (.cells (qm e) 266 (0,0))) (hgi:∀e∈ig,∀f∈ig,G e.num=G f.num->e.num=f.num) (wj:∀e∈ig,¬U (G e.num)) (qD:ig.length<=1000000):dJ U w3 xb mb D2 G vt vq ts t lf ig Q/\ae (λj=>¬U j) w w3:=by
 have ho:=PT eK
 have tH:=JU (ks:=ig.map (·.num)) hm (λk jn hh=>(hk k jn).1 hh) (λk bE=>by
  obtain⟨r,hr,rfl⟩:=List.mem_map.1 bE
  exact(hk _ (gj r hr)).2 bE) lO
 have bE:w3.ownsMap prog 3 RP mb ig.length D2:=by
  have:=PR hm;rw[tH.2,List.length_map] at this;exact this
 refine⟨⟨ae.keep ho h.x (λe=>xV h.x h.m e),h.lq,h.t'.kept ho (λk hk e=>?_),bE,λk jn=>?_,λk i z hi=>?_,λe he=>ae.keep ho (hr e he) (λe2=>xV (hr e he) h.m e2),hgi,λj hj=>(h.qs j hj).kept ho (λk hk e=>?_),h.qd,h.ux,h.ut,h.um,wj,h.uq,λk hu=>Nat.lt_of_lt_of_le (h.low k hu) ho.size,qD,gj⟩,ho.mono (λj _ hj=>by subst hj;exact h.um)⟩
 ·obtain⟨cur,hc⟩:=bu h.t' hk;exact xV hc h.m e
 ·cases hs:dB ig k with
  |some i=>exact(hk k jn).2 (Eo.1 (by rw[hs];rfl))
  |none=>
   cases hh:Maps.has D2 (.int .i64 k) with
   |false=>rfl
   |true=>
    have:=Eo.2 ((hk k jn).1 hh);rw[hs] at this;cases this
 ·obtain⟨hl,hE⟩:=wX hi;rw[<-hE];exact hv _ (List.getElem_mem hl) z
 ·obtain⟨cur,hc⟩:=bu (h.qs j hj) hk;exact xV hc h.m e
theorem dJ.added (h:dJ U w xb mb D G vt vq ts t lf es Q) (gZ:(es.map (·.num)).Nodup) (hqm:∀j,j<64->∀x∈Q j,x∈es.map (·.num)) {y:Et} (oU:aj y.num) (eH:y.num∉es.map (·.num)) {g:Nat} (hg:w.heap[g]?=some (.cells (qm y) 266 (0,0))) (yC:∀e∈es,G e.num≠g) (pU:¬U g) {m:Nat} (hm:w3.ownsMap prog 3 RP mb m (D.put (.int .i64 y.num) (.held (Zp g)))) (eK:w.grownBy w3 (some mb)) (qD:es.length+1<=1000000):
  dJ U w3 xb mb (D.put (.int .i64 y.num) (.held (Zp g))) (pK G y.num g) vt vq ts t lf (es++[y]) Q/\ae (λj=>¬U j) w w3:=by
 have cu:∀e∈es,e.num≠y.num:=λe he h9=>eH (List.mem_map.2 ⟨e,he,h9⟩)
 have hG:∀e∈es,pK G y.num g e.num=G e.num:=λe he=>vP G g (cu e he)
 have hN:=zQ G y.num g
 have h':dJ U w xb mb D (pK G y.num g) vt vq ts t lf es Q:=by
  refine⟨h.x,h.lq,h.t',h.m,h.hs,λk i z hi=>?_,λe he=>by rw[hG e he];exact h.rn e he,λe he f hf=>by rw[hG e he,hG f hf];exact h.gi e he f hf,λj hj=>?_,h.qd,h.ux,h.ut,h.um,λe he=>by rw[hG e he];exact h.ur e he,h.uq,h.low,h.nl,h.ix⟩
  ·obtain⟨hl,hE⟩:=wX hi;rw[<-hE,hG _ (List.getElem_mem hl),hE];exact h.ha k i z hi
  ·have:(Q j).map (pK G y.num g)=(Q j).map G:=List.map_congr_left (λx hx=>by
    obtain⟨e,he,rfl⟩:=List.mem_map.1 (hqm j hj x hx)
    exact hG e he)
   rw[this];exact h.qs j hj
 refine h'.Jt ?_ ?_ hm eK (λk hk=>?_) (λe he z=>?_) (λe he=>?_) (λe he f hf h9=>?_) (λe he=>?_) (by rw[List.length_append,List.length_singleton];exact qD)
 ·rw[List.map_append,List.nodup_append];refine⟨gZ,by simp,λa ha b hb=>?_⟩;simp only[List.map_cons,List.map_nil,List.mem_singleton] at hb;rw[hb];exact λe=>eH (e▸ha)
 ·intro r hr;rcases List.mem_append.1 hr with hr|hr
  ·exact h.ix r hr
  ·rw[List.mem_singleton] at hr;rw[hr];exact oU
 ·rw[List.map_append,List.mem_append];by_cases he:k=y.num
  ·subst he;rw[Maps.has_put_same h.m.isMap (Gj oU)];simp
  ·rw[Maps.has_put_other (Gu he),h.hk k hk];simp[he]
 ·rcases List.mem_append.1 he with he|he
  ·rw[Maps.atKey_put_other (Gu (cu e he))];exact h'.hv e he z
  ·rw[List.mem_singleton] at he;subst he;rw[hN];exact Maps.atKey_put_same h.m.isMap (Gj oU) _ z
 ·rcases List.mem_append.1 he with he|he
  ·exact h'.rn e he
  ·rw[List.mem_singleton] at he;subst he;rw[hN];exact hg
 ·rcases List.mem_append.1 he with a1|a1
  ·rcases List.mem_append.1 hf with a2|a2
   ·exact h'.gi e a1 f a2 h9
   ·rw[List.mem_singleton] at a2;rw[a2,hN,hG e a1] at h9;exact absurd h9 (yC e a1)
  ·rw[List.mem_singleton] at a1;rcases List.mem_append.1 hf with a2|a2
   ·rw[a1,hN,hG f a2] at h9;exact absurd h9.symm (yC f a2)
   ·rw[List.mem_singleton] at a2;rw[a1,a2]
 ·rcases List.mem_append.1 he with he|he
  ·exact h'.ur e he
  ·rw[List.mem_singleton] at he;subst he;rw[hN];exact pU
end
section
variable {U V S:Nat->Prop} {w w2 w3:World} {xb mb n:Nat} {D D2:DataW Value} {G:Int->Nat} {vt:Value} {vq:List Value} {ts:Lp} {t:Nat} {lf:Int} {es ig:List Et} {Q:Nat->List Int} {ck:Nat}
theorem lz.find (h:lz U w xb G ts t lf es ck) (n:Int) (hn:aj n) (b:Bool):Zk 204 #[Zp xb,Zi n,.bool b] w λe w'=>Zr e (qM G es n b)/\w'=w:=by
 obtain⟨hw,wk,mb,D,vt,vq,Q,hq,hx⟩:=h;exact VO hx n hn b
theorem Vq (h:lz U w xb G ts t lf es ck) (n:Int) (hn:aj n):Zk 172 #[Zp xb,Zi n] w λe w'=>Zr e (Zi (fq es n))/\lz U w' xb G ts t lf (if fq es n=0 then kZ es ck n else es) (if fq es n=0 then ck+1 else ck)/\Zn U w w':=by
 have HF:=aa (h.find n hn false);have HH:=aa h
 cases hi:dB es n with
 |none=>
  have e1:fq es n=6:=by unfold fq;rw[hi]
  have e2:qM G es n false=.tuple #[.pointer none,Zi 6]:=by unfold qM;rw[hi]
  rw[e2] at HF;simp only[e1,if_neg (show¬(6:Int)=0 from Zd)];clear h hi e1 e2 hn;go_enter func172,ntmps172;go_wp2_with fail;refine HF.j.e1 ?_;go_wp2_with fail
  all_goals
   go_ret
   exact⟨rfl,HH.j,ae.refl _ _⟩
 |some i=>
  obtain⟨hl,hE⟩:=wX hi;have oX:=h.1.ok _ (List.getElem_mem hl);by_cases hc:es[i].bV≠0
  ·have e1:fq es n=16:=by unfold fq;rw[hi];dsimp only;rw[kK hl];exact if_pos Zo
   have e2:qM G es n false=.tuple #[.pointer none,Zi 16]:=by unfold qM;rw[hi];dsimp only;rw[kK hl];exact if_neg (by simp[hc])
   rw[e2] at HF;simp only[e1,if_neg (show¬(16:Int)=0 from Zd)];clear h hi e1 e2 hn hE oX hc hl;go_enter func172,ntmps172;go_wp2_with fail;refine HF.j.e1 ?_;go_wp2_with fail
   all_goals
    go_ret;exact⟨rfl,HH.j,ae.refl _ _⟩
  ·have e1:fq es n=0:=by unfold fq;rw[hi];dsimp only;rw[kK hl];exact if_neg Zo
   have e2:qM G es n false=.tuple #[.pointer (some ⟨G n,0,none⟩),Zi 0]:=by unfold qM;rw[hi];dsimp only;rw[kK hl];exact if_pos (by simp;omega)
   have e3:kZ es ck n=es.set i (iM ck (es.getD i .df)):=by unfold kZ;rw[hi]
   rw[e2] at HF;simp only[e1,if_true,e3];have HJ:=aa (VI h hi (by rw[kK hl];omega));clear h hi e1 e2 e3 hn hE oX hc hl;generalize G n=g at HF HJ|-;go_enter func172,ntmps172;go_wp2_with fail;refine HF.j.e1 ?_;go_wp2_with fail;refine HJ.j.m ?_;rintro e w3 ⟨⟨x,rfl⟩,hr,ho⟩;go_wp2_with fail
   all_goals
    go_ret;exact⟨rfl,hr,ho⟩
end
section
variable {U V S:Nat->Prop} {w w2 w3:World} {xb mb n:Nat} {D D2:DataW Value} {G:Int->Nat} {vt:Value} {vq:List Value} {ts:Lp} {t:Nat} {lf:Int} {es ig:List Et} {Q:Nat->List Int} {ck:Nat}
def prE (e:Et) (p:Int):Et:={e with prio:=p}
theorem lz.look (h:lz U w xb G ts t lf es ck) (n:Int) (hn:aj n):∃mb,w.cell? ⟨xb,3,none⟩=some (.map (some mb))/\(Instr.lookup 239 (.map (some mb)) (Zi n) false).run prog w=.ok (re G es n) w:=by
 obtain⟨hw,wk,mb,D,vt,vq,Q,hq,hx⟩:=h;exact⟨mb,hx.c3,hx.look n hn⟩
theorem lz.r5 (h:lz U w xb G ts t lf es ck) {n:Int} {i:Nat} (hi:dB es n=some i):∃hl:i<es.length,es[i].num=n/\R5 w (G n) es[i]/\re G es n=.pointer (some ⟨G n,0,none⟩):=by
 obtain⟨hw,wk,mb,D,vt,vq,Q,hq,hx⟩:=h;exact hx.r5 hi
end
section
variable {U V S:Nat->Prop} {w w2 w3:World} {xb mb n:Nat} {D D2:DataW Value} {G:Int->Nat} {vt:Value} {vq:List Value} {ts:Lp} {t:Nat} {lf:Int} {es ig:List Et} {Q:Nat->List Int} {ck:Nat}
def xS (n d p:Int):Et:=⟨n,d,p,0,0⟩
theorem NK (h:lz U w xb G ts t lf es ck) (tG:es.length<1000000) (n d p:Int) (hn:aj n):Zk 55 #[Zp xb,.int .i64 n,.int .i64 d,.int .i64 p] w λe w'=>Zr e (.int .i64 (fj es n d p))/\rN U w' xb ts t lf (bU es n d p) ck/\Zn U w w':=by
 have HH:=aa h;have HD:=aa (GA d);have HP:=aa (Ka p)
 have HB:Hid (∀b c:Bool,nn d=b->nn p=c->(n<0\/b=false\/c=false)->fj es n d p=1/\bU es n d p=es):=by
  intro b c hb hc hh
  have e1:fj es n d p=1:=by
   refine if_pos ?_;rcases hh with hh|hh|hh
   ·omega
   ·rw[hh] at hb;have:=of_decide_eq_false hb;omega
   ·rw[hh] at hc;have:=of_decide_eq_false hc;omega
  exact⟨e1,if_neg (by rw[e1];decide)⟩
 by_cases a1:n<0
 ·obtain⟨e1,e2⟩:=HB.j _ _ rfl rfl (Or.inl a1);rw[e1,e2];clear h e1 e2 HB hn tG;go_enter func55,ntmps55;go_wp2_with fail
  all_goals
   go_ret;exact⟨rfl,⟨_,HH.j⟩,ae.refl _ _⟩
 ·cases hb:nn d with
  |false=>
   obtain⟨e1,e2⟩:=HB.j _ _ hb rfl (Or.inr (Or.inl rfl));rw[e1,e2];rw[hb] at HD;clear h e1 e2 HB hn tG hb;go_enter func55,ntmps55;go_wp2_with fail;refine(HD.j _).e1 ?_;go_wp2_with fail
   all_goals
    go_ret
    exact⟨rfl,⟨_,HH.j⟩,ae.refl _ _⟩
  |true=>
   cases hc:nn p with
   |false=>
    obtain⟨e1,e2⟩:=HB.j _ _ hb hc (Or.inr (Or.inr rfl));rw[e1,e2];rw[hb] at HD;rw[hc] at HP;clear h e1 e2 HB hn tG hb hc;go_enter func55,ntmps55;go_wp2_with fail;refine(HD.j _).e1 ?_;go_wp2_with fail;refine(HP.j _).e1 ?_;go_wp2_with fail
    all_goals
     go_ret
     exact⟨rfl,⟨_,HH.j⟩,ae.refl _ _⟩
   |true=>
    have Se:=of_decide_eq_true hb;have Rp:=of_decide_eq_true hc;have yG:¬(n<0\/d<0\/7<d\/p<0\/7<p):=Zo;rw[hb] at HD;rw[hc] at HP;obtain⟨mb,c3,hk⟩:=h.look n hn
    cases hi:dB es n with
    |some i=>
     obtain⟨hl,hE,r5,hv⟩:=h.r5 hi;rw[hv] at hk;have e1:fj es n d p=7:=by unfold fj;rw[if_neg yG,hi];rfl
     have e2:bU es n d p=es:=if_neg (by rw[e1];decide);rw[e1,e2];generalize G n=g at hk;clear h e1 e2 HB hn tG hb hc Se Rp yG hi hE r5 hv hl;go_enter func55,ntmps55;go_wp2_with fail;refine(HD.j _).e1 ?_;go_wp2_with fail;refine(HP.j _).e1 ?_;go_wp2_with fail
     all_goals
      go_ret
      exact⟨rfl,⟨_,HH.j⟩,ae.refl _ _⟩
    |none=>
     have hv:re G es n=.pointer none:=by unfold re;rw[hi]
     rw[hv] at hk;have e1:fj es n d p=0:=by unfold fj;rw[if_neg yG,hi];rfl
     have e2:bU es n d p=es++[xS n d p]:=if_pos e1;have Bb:=aa (h.1.add n d p);rw[e2] at Bb;rw[e1,e2]
     have HM:Hid (∀zW,Zc w xb 3 (.map (some zW))->∃w1 w3,w1=w.alloc (.cells (qm (xS n d p)) 266)/\Zc w1 xb 3 (.map (some zW))/\(Instr.mapUpdate 239 (.map (some zW)) (.int .i64 n) (Zp w.heap.size)).run prog w1=.ok () w3/\rN U w3 xb ts t lf (es++[xS n d p]) ck/\Zn U w w3):=by
      intro zW fa;obtain⟨hw,wk,mb,D,vt,vq,Q,hq,hx⟩:=HH.j
      have oV:zW=mb:=by
       have:=hx.c3;rw[fa] at this;simpa using this
      subst oV;have aB:Zq w (w.alloc (.cells (qm (xS n d p)) 266)):=(ae.refl _ w).alloc _;have nx:=hx.quiet aB;have lQ:(w.alloc (.cells (qm (xS n d p)) 266)).heap[w.heap.size]?=some (.cells (qm (xS n d p)) 266 (0,0)):=heap_alloc_last w _;obtain⟨w3,aM,nD,wL⟩:=nx.m.update (t:=239) (e:=264) oO underlying239 (by unfold maxLen;omega) (xZ hn) (val:=Zp w.heap.size) (d:=.held (Zp w.heap.size)) (ps:=[]) rfl
      obtain⟨k1,o1⟩:=nx.added hw.nd (λj hj x Dm=>by
        obtain⟨e,he,h9,_⟩:=(hq j hj).mem.1 Dm
        exact List.mem_map.2 ⟨e,he,h9⟩) (y:=xS n d p) hn (λh9=>by have:=Eo.2 h9;rw[show(xS n d p).num=n from rfl,hi] at this;cases this) lQ (λe he h9=>by have:=au (hx.rn e he);omega) (λhu=>by have:=hx.low _ hu;omega) nD wL Zo
      exact⟨_,w3,rfl,nx.c3,aM,⟨_,Bb.j,wk,_,_,_,_,_,λj hj=>NQ.add _ rfl (hq j hj),k1⟩,(aB.f).trans o1⟩
     obtain⟨w1,w3,ag,c31,aM,hr,ho⟩:=HM.j mb c3;have HF:=aa (⟨hr,ho⟩:_/\_);have QZ:w1=w.alloc (.cells #[.int .i64 n,.int .i64 d,.int .i64 p,.bool false,.int .i64 0] 266):=ag;obtain⟨A,hA⟩:=Ze (w.heap.size);rw[<-hA] at aM;clear h e1 e2 HB hn tG hb hc Se Rp yG hi hv Bb HM hr ho ag;go_enter func55,ntmps55;go_wp2_with fail;refine(HD.j _).e1 ?_;go_wp2_with fail;refine(HP.j _).e1 ?_;rw[hA,QZ] at aM;clear QZ hA;go_wp2_with fail
     all_goals
      go_ret;exact⟨rfl,HF.j.1,HF.j.2⟩
end
section
variable {U V S:Nat->Prop} {w w2 w3 w4:World} {xb mp mw:Nat} {DP DW Bn Fs:DataW Value} {GP GW IP Fk:Int->Nat} {Q:Int->Value} {s:Bs}
theorem gS.opened (h:gS U w xb mp mw DP DW GP GW Q s) (hb:sU s) {n:Int} (hi:pF s.ps n=none) (b:Bool) {g:Nat} (hg:w.heap[g]?=some (.cells (vV ⟨n,b,0⟩ (.slice none 0 0)) 345 (0,0))) (yC:∀p∈s.ps,GP p.num≠g) (pU:¬U g)
  (hm:lB w3 mp Bn (s.ps.map (·.num)++[n]) (pK GP n g)) (aN:ae (λk=>k=mp) w w3) (qD:s.ps.length<1000000):
  (∃Q',gS U w3 xb mp mw Bn DW (pK GP n g) GW Q' ⟨s.ps++[⟨n,b,0⟩],s.ws⟩)/\Zn U w w3:=by
 have eH:∀p∈s.ps,p.num≠n:=λp hp e=>by
  have:=mu hi p hp;simp[e] at this
 have hG:∀p∈s.ps,pK GP n g p.num=GP p.num:=λp hp=>vP GP g (eH p hp)
 have hN:pK GP n g n=g:=zQ GP n g
 have u9:jS s n=[]:=by
  unfold jS;rw[List.map_eq_nil_iff,List.filter_eq_nil_iff];intro x hx h9;obtain⟨p,hp,h1,_⟩:=hb.at' x hx;exact eH p hp (h1.trans (of_decide_eq_true h9))
 have gQ:∀p∈s.ps++[(⟨n,b,0⟩:Pc)],p∈s.ps\/p=⟨n,b,0⟩:=λp hp=>by
  rcases List.mem_append.1 hp with hp|hp
  ·exact Or.inl hp
  ·rw[List.mem_singleton] at hp;exact Or.inr hp
 refine⟨⟨λk=>if k=n then .slice none 0 0 else Q k,ae.keep aN h.x (λe=>h.pm.ne h.x e),?_,h.wm.keep aN (λe=>h.mn e.symm),h.mn,λp hp=>?_,λx hx=>ae.keep aN (h.wb x hx) (λe=>h.pm.ne (h.wb x hx) e),λp hp q hq h9=>?_,h.gw,λp hp=>?_,λp hp q hq k h1 h2=>?_,h.ux,h.u1,h.u2,λp hp=>?_,h.uw,λp hp k hk=>?_,λk hk=>Nat.lt_of_lt_of_le (h.low k hk) aN.size,?_,h.nl⟩,aN.mono (λk _ e=>by rw[e];exact h.u1)⟩
 ·rw[List.map_append];exact hm
 ·rcases gQ p hp with hp|hp
  ·show w3.heap[pK GP n g p.num]?=some (.cells (vV p (if p.num=n then _ else Q p.num)) _ _);rw[hG p hp,if_neg (eH p hp)];exact ae.keep aN (h.pb p hp) (λe=>h.pm.ne (h.pb p hp) e)
  ·subst hp;show w3.heap[pK GP n g n]?=some (.cells (vV _ (if n=n then _ else Q n)) _ _);rw[hN,if_pos rfl];exact ae.keep aN hg (λe=>h.pm.ne hg e)
 ·rcases gQ p hp with hp|hp
  ·rcases gQ q hq with hq|hq
   ·rw[hG p hp,hG q hq] at h9;exact h.gp p hp q hq h9
   ·subst hq;rw[hG p hp] at h9;exact absurd (h9.trans hN) (yC p hp)
  ·subst hp;rcases gQ q hq with hq|hq
   ·rw[hG q hq] at h9;exact absurd (h9.symm.trans hN) (yC q hq)
   ·rw[hq]
 ·show ai qu w3 0 324 (if p.num=n then .slice none 0 0 else Q p.num) ((jS s p.num).map GW);rcases gQ p hp with hp|hp
  ·rw[if_neg (eH p hp)];refine(h.qs p hp).kept aN (λk hk e=>?_);obtain⟨cur,hc⟩:=bu (h.qs p hp) hk;exact h.pm.ne hc e
  ·subst hp;show ai qu w3 0 324 (if n=n then .slice none 0 0 else Q n) ((jS s n).map GW);rw[if_pos rfl,u9];exact ai.nil _ _ _ _
 ·have h1:(if p.num=n then Value.slice none 0 0 else Q p.num).ownBlock=some k:=h1;have h2:(if q.num=n then Value.slice none 0 0 else Q q.num).ownBlock=some k:=h2;rcases gQ p hp with hp|hp
  ·rcases gQ q hq with hq|hq
   ·rw[if_neg (eH p hp)] at h1;rw[if_neg (eH q hq)] at h2;exact h.qd p hp q hq k h1 h2
   ·subst hq;rw[if_pos rfl] at h2;cases h2
  ·subst hp;rw[if_pos rfl] at h1;cases h1
 ·rcases gQ p hp with hp|hp
  ·show¬U (pK GP n g p.num);rw[hG p hp];exact h.up p hp
  ·subst hp;show¬U (pK GP n g n);rw[hN];exact pU
 ·have hk:(if p.num=n then Value.slice none 0 0 else Q p.num).ownBlock=some k:=hk;rcases gQ p hp with hp|hp
  ·rw[if_neg (eH p hp)] at hk;exact h.uq p hp k hk
  ·subst hp;rw[if_pos rfl] at hk;cases hk
 ·show(s.ps++[(⟨n,b,0⟩:Pc)]).length<=1000000;rw[List.length_append,List.length_singleton];omega
def asB (h:Int):Bool:=decide (h=3\/h=7)
def snB (h:Int):Bool:=decide (h=2\/h=3\/h=7)
end
section
variable {U V S:Nat->Prop} {w w2 w3 w4:World} {xb mp mw:Nat} {DP DW Bn Fs:DataW Value} {GP GW IP Fk:Int->Nat} {Q:Int->Value} {s:Bs}
def rL (GP:Int->Nat) (s:Bs) (n:Int) (b:Bool):Value:=match pF s.ps n with
 |none=>.pointer none
 |some i=>if (oM s i).dj=b then .pointer (some ⟨GP n,0,none⟩) else .pointer none
theorem afD (h:gS U w xb mp mw DP DW GP GW Q s) (n:Int) (hn:aj n) (b:Bool):Zk 193 #[Zp xb,Zi n,.bool b] w λe w'=>Zr e (rL GP s n b)/\w'=w:=by
 have c0:=h.c0
 cases hi:pF s.ps n with
 |none=>
  have hk:=h.J3 hi hn;have HV:Hid (rL GP s n b=.pointer none):=by show _=_;unfold rL;rw[hi]
  rw[HV.j];clear h hi hn;go_enter func193,ntmps193;go_wp2_with fail
  all_goals
   go_ret
   exact⟨rfl,rfl⟩
 |some i=>
  have hk:=h.J2 hi hn;obtain⟨hl,mA,hp,DS,hL,fi⟩:=h.place hi;clear DS fi;have b0:=hL.c0;by_cases hb:s.ps[i].dj=b
  ·have HV:Hid (rL GP s n b=.pointer (some ⟨GP n,0,none⟩)):=by show _=_;unfold rL;rw[hi];dsimp only;rw[hp,if_pos hb]
   rw[HV.j];rw[hb] at b0;have oq:(b !=b)=false:=by simp
   generalize GP n=g at b0 hk|-;clear h hi hn hL hp hb mA HV hl;go_enter func193,ntmps193;go_wp2_with fail
   all_goals
    go_ret;exact⟨rfl,rfl⟩
  ·have HV:Hid (rL GP s n b=.pointer none):=by show _=_;unfold rL;rw[hi];dsimp only;rw[hp,if_neg hb]
   rw[HV.j]
   have cw:s.ps[i].dj= !b:=by
    cases h1:s.ps[i].dj<;>cases b<;>simp_all
   rw[cw] at b0;generalize GP n=g at b0 hk;clear h hi hn hL hp hb mA HV cw hl
   cases b with
   |true=>
    go_enter func193,ntmps193;go_wp2_with fail
    all_goals
     go_ret
     exact⟨rfl,rfl⟩
   |false=>
    go_enter func193,ntmps193;go_wp2_with fail
    all_goals
     go_ret;exact⟨rfl,rfl⟩
def ahf (GP:Int->Nat) (s:Bs) (n:Int) (b:Bool) (t:Int):Value:=if rl s n b t=0 then .tuple #[.pointer (some ⟨GP n,0,none⟩),Zi 0] else .tuple #[.pointer none,Zi (rl s n b t)]
theorem afB {n:Int} {b:Bool} (h:rL GP s n b=.pointer (some ⟨GP n,0,none⟩)) (t:Int):(∃i,pF s.ps n=some i/\(oM s i).dj=b)/\rl s n b t=if (tF s.ws t).isSome=true then 16 else 0:=by
 unfold rL at h;unfold rl
 cases hi:pF s.ps n with
 |none=>rw[hi] at h;cases h
 |some i=>
  rw[hi] at h;dsimp only at h|-;by_cases hb:(oM s i).dj=b
  ·exact⟨⟨i,rfl,hb⟩,by rw[if_neg (λh9=>h9 hb)]⟩
  ·rw[if_neg hb] at h;cases h
theorem afC (GP:Int->Nat) (s:Bs) (n:Int) (b:Bool):rL GP s n b=.pointer none\/rL GP s n b=.pointer (some ⟨GP n,0,none⟩):=by
 unfold rL
 split
 ·exact Or.inl rfl
 ·split
  ·exact Or.inr rfl
  ·exact Or.inl rfl
end
end Go.Proofs.YtphkconoooeidaaGreatDoor
namespace Go.Vx

end Go.Vx
namespace Go.Proofs.YtphkconoooeidaaGreatDoor
section
variable {U V S:Nat->Prop} {w w2 w3 w4:World} {xb mp mw:Nat} {DP DW Bn Fs:DataW Value} {GP GW IP Fk:Int->Nat} {Q:Int->Value} {s:Bs}
def wtP (w:World) (g:Nat) (x:Wt):Prop:=w.heap[g]?=some (.cells (Bo x) 326 (0,0))
end
section
variable {U V S:Nat->Prop} {w w2 w3 w4:World} {xb mp mw:Nat} {DP DW Bn Fs:DataW Value} {GP GW IP Fk:Int->Nat} {Q:Int->Value} {s:Bs}
theorem Vz (h:qO U w xb s) (tG:s.ps.length<1000000) (n:Int) (hn:aj n) (b:Bool):Zk 162 #[Zp xb,Zi n,.bool b] w λe w'=>Zr e (Zi (nX s n))/\qO U w' xb (jR s n b)/\Zn U w w':=by
 have HH:=aa h;obtain⟨hb,mp,mw,DP,DW,GP,GW,Q,h⟩:=h;have c0:=h.c0;by_cases a1:n<0
 ·have e1:nX s n=1:=if_pos a1;have e2:jR s n b=s:=if_neg (by rw[e1];decide);rw[e1,e2];clear h e1 e2 hb tG hn;go_enter func162,ntmps162;go_wp2_with fail
  all_goals
   go_ret;exact⟨rfl,HH.j,ae.refl _ _⟩
 ·cases hi:pF s.ps n with
  |some i=>
   have hk:=h.J2 hi hn;have e1:nX s n=7:=by unfold nX;rw[if_neg a1,hi];rfl
   have e2:jR s n b=s:=if_neg (by rw[e1];decide);rw[e1,e2];generalize GP n=g at hk;clear h e1 e2 hi hb tG hn;go_enter func162,ntmps162;go_wp2_with fail
   all_goals
    go_ret
    exact⟨rfl,HH.j,ae.refl _ _⟩
  |none=>
   have hk:=h.J3 hi hn;have e1:nX s n=0:=by unfold nX;rw[if_neg a1,hi];rfl
   have e2:jR s n b=⟨s.ps++[⟨n,b,0⟩],s.ws⟩:=if_pos e1;rw[e1,e2];have aB:Zq w (w.alloc (.cells (vV ⟨n,b,0⟩ (.slice none 0 0)) 345)):=(ae.refl _ w).alloc _;have h1:=h.quiet aB;have lQ:(w.alloc (.cells (vV ⟨n,b,0⟩ (.slice none 0 0)) 345)).heap[w.heap.size]?=some (.cells (vV ⟨n,b,0⟩ (.slice none 0 0)) 345 (0,0)):=heap_alloc_last w _;obtain⟨w3,aM,nD,aN⟩:=h1.pm.put (t:=253) (e:=338) underlying253 (by rw[List.length_map];unfold maxLen;omega) n hn (λh9=>by obtain⟨i,h8⟩:=Ga.2 h9;rw[hi] at h8;cases h8) w.heap.size;obtain⟨⟨Q',QV⟩,hO⟩:=h1.opened hb hi b lQ (λp hp e=>by have:=au (h.pb p hp);omega) (λhu=>by have:=h.low _ hu;omega) nD aN tG;have HF:Hid (qO U w3 xb ⟨s.ps++[⟨n,b,0⟩],s.ws⟩/\Zn U w w3):=⟨⟨hb.opened hn hi b,_,_,_,_,_,_,_,QV⟩,(aB.f).trans hO⟩
   have agU:(Instr.mapUpdate 253 (.map (some mp)) (Zi n) (Zp w.heap.size)).run prog (w.alloc (.cells #[.bool b,Zu 0,.slice none 0 0] 345))=.ok () w3:=aM;have c01:(w.alloc (.cells #[.bool b,Zu 0,.slice none 0 0] 345)).cell? ⟨xb,0,none⟩=some (.map (some mp)):=h1.c0;clear h e1 e2 hi hb tG hn aB h1 lQ nD aN QV hO aM;go_enter func162,ntmps162;go_wp2_with fail
   all_goals
    go_ret;exact⟨rfl,HF.j⟩
theorem Vi (h:qO U w xb s) (n:Int) (hn:aj n):Zk 153 #[Zp xb,Zi n] w λe w'=>Zr e (.tuple #[Zu (qh s n),Zi (qi s n)])/\Zq w w':=by
 obtain⟨hb,mp,mw,DP,DW,GP,GW,Q,h⟩:=h;have HF:=aa (afD h n hn true);rcases afC GP s n true with hf|hf
 ·have AL:sF s n=none:=by
   unfold rL at hf;unfold sF
   cases hi:pF s.ps n with
   |none=>rfl
   |some i=>
    rw[hi] at hf;dsimp only at hf|-;by_cases h9:(oM s i).dj=true
    ·rw[if_pos h9] at hf;cases hf
    ·rw[if_neg h9]
  have e1:qh s n=0:=by unfold qh;rw[AL]
  have e2:qi s n=6:=by unfold qi;rw[AL]
  rw[hf] at HF;rw[e1,e2];clear h hf AL e1 e2 hb hn;go_enter func153,ntmps153;go_wp2_with fail;refine HF.j.e1 ?_;go_wp2_with fail;refine bodyPost_ret (v:=.tuple #[Zu 0,Zi 6]) ?_ rfl ⟨rfl,ae.refl _ _⟩;simp[results,results153,go_sem]
 ·obtain⟨⟨i,hi,gn⟩,_⟩:=afB hf 0;obtain⟨hl,mA,hp,DS,hL,fi⟩:=h.place hi;have b1:=hL.c1;have AL:=Mx hi gn;have e1:qh s n=s.ps[i].word:=by unfold qh;rw[AL];dsimp only;rw[hp]
  have e2:qi s n=0:=by unfold qi;rw[AL]
  rw[hf] at HF;rw[e1,e2];generalize s.ps[i].word=x1 at b1|-;generalize GP n=g at b1 HF;clear h hf AL e1 e2 hb hn hi gn mA hp DS hL fi hl;go_enter func153,ntmps153;go_wp2_with fail;refine HF.j.e1 ?_;go_wp2_with fail
  first|(go_quiet (fail);go_wp2_with fail)|skip
  refine bodyPost_ret (v:=.tuple #[Zu x1,Zi 0]) ?_ rfl ⟨rfl,by first|exact(ae.refl _ _).drewN _|exact ae.refl _ _⟩;simp[results,results153,go_sem]
theorem Vj (h:qO U w xb s) (t:Int) (ht:aj t):Zk 130 #[Zp xb,Zi t] w λe w'=>Zr e (.tuple #[Zi (nV s t),Zi (qj s t)])/\Zq w w':=by
 obtain⟨hb,mp,mw,DP,DW,GP,GW,Q,h⟩:=h;have c1:=h.c1
 cases hi:tF s.ws t with
 |none=>
  have hk:=h.ac2 hi ht;have e1:nV s t= -1:=by unfold nV;rw[hi]
  have e2:qj s t=0:=by unfold qj;rw[hi]
  rw[e1,e2];clear h hi e1 e2 hb ht;go_enter func130,ntmps130;go_wp2_with fail;refine bodyPost_ret (v:=.tuple #[Zi (-1),Zi 0]) ?_ rfl ⟨rfl,ae.refl _ _⟩
  simp[results,results130,go_sem]
 |some i=>
  have hk:=h.ac1 hi ht;obtain⟨hl,mA,hp,DS,hL,fi⟩:=h.waiter hi;have b1:=hL.c1;have b2:=hL.c2;have e1:nV s t=s.ws[i].at':=by unfold nV;rw[hi];dsimp only;rw[hp]
  have e2:qj s t=s.ws[i].nZ:=by unfold qj;rw[hi];dsimp only;rw[hp]
  rw[e1,e2];generalize s.ws[i].at'=x1 at b1|-;generalize s.ws[i].nZ=x2 at b2|-;generalize GW t=g at b1 b2 hk;clear h hi e1 e2 hb ht mA hp DS hL fi hl;go_enter func130,ntmps130;go_wp2_with fail
  first|(go_quiet (fail);go_wp2_with fail)|skip
  refine bodyPost_ret (v:=.tuple #[Zi x1,Zi x2]) ?_ rfl ⟨rfl,by first|exact(ae.refl _ _).drewN _|exact ae.refl _ _⟩;simp[results,results130,go_sem]
theorem afw (w:World):Zk 41 #[] w λe w'=>∃xb,Zr e (Zp xb)/\w.heap.size<=xb/\Hid (qO (λk=>k<w.heap.size) w' xb ⟨[],[]⟩/\Zq w w'):=by
 have oV:= @run_makeMap prog
 have HF:Hid (qO (λk=>k<w.heap.size) (((w.alloc (.map #[] 0)).alloc (.map #[] 0)).alloc (.cells #[.map (some w.heap.size),.map (some (w.heap.size+1))] 256)) (w.heap.size+2) ⟨[],[]⟩/\Zq w (((w.alloc (.map #[] 0)).alloc (.map #[] 0)).alloc (.cells #[.map (some w.heap.size),.map (some (w.heap.size+1))] 256))):=by
  have m1:=lB.made w (λ_=>0);have m2:=lB.made (w.alloc (.map #[] 0)) (λ_=>0);have o2:Zq (w.alloc (.map #[] 0)) ((w.alloc (.map #[] 0)).alloc (.map #[] 0)):=(ae.refl _ _).alloc _;have o3:Zq ((w.alloc (.map #[] 0)).alloc (.map #[] 0)) (((w.alloc (.map #[] 0)).alloc (.map #[] 0)).alloc (.cells #[.map (some w.heap.size),.map (some (w.heap.size+1))] 256)):=(ae.refl _ _).alloc _;have m1':=(m1.keep o2 (λh=>h)).keep o3 (λh=>h);have P9:=m2.keep o3 (λh=>h);have s1:(w.alloc (.map #[] 0)).heap.size=w.heap.size+1:=by simp
  have s2:((w.alloc (.map #[] 0)).alloc (.map #[] 0)).heap.size=w.heap.size+2:=by simp
  rw[s1] at P9;have hx:=heap_alloc_last ((w.alloc (.map #[] 0)).alloc (.map #[] 0)) (.cells #[.map (some w.heap.size),.map (some (w.heap.size+1))] 256);rw[s2] at hx;have ho:Zq w (((w.alloc (.map #[] 0)).alloc (.map #[] 0)).alloc (.cells #[.map (some w.heap.size),.map (some (w.heap.size+1))] 256)):=(((ae.refl _ w).alloc _).trans o2).trans o3;refine⟨⟨sU.nil,w.heap.size,w.heap.size+1,_,_,λ_=>0,λ_=>0,λ_=>.slice none 0 0,hx,m1',P9,Zo,(λp hp=>by cases hp),(λp hp=>by cases hp),(λp hp=>by cases hp),(λp hp=>by cases hp),(λp hp=>by cases hp),(λp hp=>by cases hp),Zo,Zo,Zo,(λp hp=>by cases hp),(λp hp=>by cases hp),(λp hp=>by cases hp),(λk hk=>Nat.lt_of_lt_of_le hk ho.size),Nat.zero_le _,Nat.zero_le _⟩,ho⟩
 go_enter func41,ntmps41;go_wp2_with fail;go_ret;exact⟨w.heap.size+2,by first|rfl|simp,Zo,HF⟩
end
theorem abK {U:Nat->Prop} {w:World} {bm n:Nat} {f:Nat->UInt8} (h:dF U w bm n f) (root:Int) (va:Nat) (fr r:Int) (hb:¬((hasB n root&&hasB n fr)=true/\va % 4096=0)):
  Zk 203 #[Zp bm,Zi root,Zu (va:Int),Zi fr,Zi r] w λe w'=>Zr e (Zi ((fT f n root va fr r).2:Nat))/\dF U w' bm n (fT f n root va fr r).1/\Zn U w w':=by
 have jg:=aa (I3 h root fr);have HM:=aa h;have HR:Hid (fT f n root va fr r=(f,1)):=if_neg hb;have ia:(va:Int) % 4096=((va % 4096:Nat):Int):=Zo;have bE:Int.tmod (va:Int) 4096=((va % 4096:Nat):Int):=by rw[Int.tmod_eq_emod_of_nonneg Zo];omega
 have hw:IntKind.u32.wrap ((va % 4096:Nat):Int)=((va % 4096:Nat):Int):=by rw[IntKind.wrap_u32];omega
 generalize fT f n root va fr r=R at HR
 cases hB:(hasB n root&&hasB n fr) with
 |true=>
  have c1:¬((va % 4096:Nat):Int)=0:=by
   intro hc;exact hb ⟨hB,Zo⟩
  have c2:(((va % 4096:Nat):Int) !=0)=true:=by simpa using c1
  rw[hB] at jg;generalize va % 4096=m at ia bE c1 c2 hw;clear h hb hB;go_enter func203,ntmps203;go_wp2_with fail;refine jg.j.m ?_;rintro e w1 ⟨rfl,h1⟩;have bX:Hid (Zq w w1):=by show ae _ _ _;rw[h1];exact(ae.refl _ w).alloc _
  clear h1;go_wp2_with fail
  all_goals
   go_ret;rw[HR.j]
   exact⟨rfl,HM.j.quiet bX.j,bX.j.f⟩
 |false=>
  rw[hB] at jg;clear h hb hB ia bE hw;go_enter func203,ntmps203;go_wp2_with fail;refine jg.j.m ?_;rintro e w1 ⟨rfl,h1⟩;have bX:Hid (Zq w w1):=by show ae _ _ _;rw[h1];exact(ae.refl _ w).alloc _
  clear h1;go_wp2_with fail
  all_goals
   go_ret;rw[HR.j];exact⟨rfl,HM.j.quiet bX.j,bX.j.f⟩
theorem abM {U:Nat->Prop} {w:World} {bm n:Nat} {f:Nat->UInt8} (h:dF U w bm n f) (root:Int) (va:Nat) (hv:va<4294967296) (fr r:Int):
  Zk 203 #[Zp bm,Zi root,Zu (va:Int),Zi fr,Zi r] w λe w'=>Zr e (Zi ((fT f n root va fr r).2:Nat))/\dF U w' bm n (fT f n root va fr r).1/\Zn U w w':=by
 by_cases hb:(hasB n root&&hasB n fr)=true/\va % 4096=0
 case neg=>exact abK h root va fr r hb
 have jg:=aa (I3 h root fr);have HM:=aa h;have HR:Hid (fT f n root va fr r=if nk r=true then (match jO f n root.toNat va with|some t=>lu f (fc t va) (1024*fr.toNat+lW r)|none=>(f,15)) else (f,13)):=if_pos hb;obtain⟨hb,jC⟩:=hb;have ia:(va:Int) % 4096=0:=Zo;have bE:Int.tmod (va:Int) 4096=0:=by rw[Int.tmod_eq_emod_of_nonneg Zo];omega
 rw[hb] at jg;rw[Bool.and_eq_true] at hb;obtain⟨x,rfl,hr⟩:=wO hb.1;obtain⟨p,rfl,hp⟩:=wO hb.2;rw[Int.toNat_natCast,Int.toNat_natCast] at HR;have hn:=h.top;have fQ:=aa (λwv=>abz r wv);have dC:=aa (λwv (hm:dF U wv bm n f)=>Od hm x va hr hv);have CB:=aa (λt (ht:t<n) wv=>S2 t va Zo hv wv);have iI:=aa (λb (hb:b<1024) wv=>Th p b Zo hb wv);have pE:=aa (λt (ht:t<n) wv (hm:dF U wv bm n f)=>Td hm (fc t va) (1024*p+lW r) (Hs _ _) (Em ht) (by have:=TH r;omega));have gv:=aa (λt (h:jO f n x va=some t)=>I6 h);generalize fT f n x va p r=R at HR;generalize jO f n x va=TF at dC HR gv;clear h hv hb hr hp hn jC
 cases fa:nk r with
 |false=>
  have bW:Hid (R=(f,13)):=by show _=_;rw[HR.j,fa,if_neg (by simp)]
  rw[fa] at fQ;clear HR fa;go_enter func203,ntmps203;go_wp2_with fail;refine jg.j.m ?_;rintro e w1 ⟨rfl,h1⟩;have bX:Hid (Zq w w1):=by show ae _ _ _;rw[h1];exact(ae.refl _ w).alloc _
  clear h1;go_wp2_with fail;refine(fQ.j _).e1 ?_;go_wp2_with fail
  all_goals
   go_ret;rw[bW.j]
   exact⟨rfl,HM.j.quiet bX.j,bX.j.f⟩
 |true=>
  rw[fa] at fQ HR;rw[if_pos rfl] at HR
  cases TF with
  |none=>
   clear fa;go_enter func203,ntmps203;go_wp2_with fail;refine jg.j.m ?_;rintro e w1 ⟨rfl,h1⟩;have bX:Hid (Zq w w1):=by show ae _ _ _;rw[h1];exact(ae.refl _ w).alloc _
   clear h1;go_wp2_with fail;refine(fQ.j _).e1 ?_;go_wp2_with fail;refine(dC.j _ (HM.j.quiet bX.j)).m ?_;rintro e w2 ⟨rfl,aC⟩;have aL:=aa (bX.j.trans aC);clear aC bX;simp only[Option.getD_none,Option.isSome_none];go_wp2_with fail
   all_goals
    go_ret;rw[HR.j]
    exact⟨rfl,HM.j.quiet aL.j,aL.j.f⟩
  |some t=>
   have nQ:=aa (CB.j t (gv.j t rfl));have lF:=aa (pE.j t (gv.j t rfl));have bW:Hid (R=lu f (fc t va) (1024*p+lW r)):=HR.j;generalize fc t va=P at nQ lF bW;clear HR CB pE gv;have gy:=aa (iI.j (lW r) (TH r));generalize 1024*p+lW r=X at gy lF bW;obtain⟨B,hB⟩:=Ze (lW r);rw[<-hB] at gy;clear iI;rcases abA fa with rfl|rfl|rfl|rfl|rfl
   all_goals
    first|(obtain rfl:B=83:=hB)|(obtain rfl:B=215:=hB)|(obtain rfl:B=89:=hB)|(obtain rfl:B=91:=hB)|(obtain rfl:B=223:=hB)
    clear fa;go_enter func203,ntmps203;go_wp2_with fail;refine jg.j.m ?_;rintro e w1 ⟨rfl,h1⟩;have bX:Hid (Zq w w1):=by show ae _ _ _;rw[h1];exact(ae.refl _ w).alloc _
    clear h1;go_wp2_with fail;refine(fQ.j _).e1 ?_;go_wp2_with fail;refine(dC.j _ (HM.j.quiet bX.j)).m ?_;rintro e w2 ⟨rfl,aC⟩;have aL:=aa (bX.j.trans aC);clear aC bX;simp only[Option.getD_some,Option.isSome_some];go_wp2_with fail;refine(nQ.j _).e1 ?_;go_wp2_with fail;refine(gy.j _).e1 ?_;go_wp2_with fail;refine(lF.j _ (HM.j.quiet aL.j)).m ?_;rintro e w3 ⟨rfl,nD,aN⟩;have HE:Hid (dF U w3 bm n R.1/\Zn U w w3):=by rw[bW.j];exact⟨nD,(aL.j.f).trans aN⟩
    clear nD aN;rw[<-bW.j];obtain⟨ee,Fe⟩:∃ee,Hid (R.2=ee):=⟨_,rfl⟩
    rw[Fe.j];go_wp2_with fail
    all_goals
     go_ret;rw[Fe.j];exact⟨rfl,HE.j⟩
end Go.Proofs.YtphkconoooeidaaGreatDoor

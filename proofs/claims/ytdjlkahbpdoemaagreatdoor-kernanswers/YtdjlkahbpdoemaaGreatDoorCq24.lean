import Derived.Test.YtdjlkahbpdoemaaGreatDoorCq15
set_option maxRecDepth 100000
set_option maxHeartbeats 8000000
set_option linter.unusedVariables false
set_option linter.unusedSimpArgs false
open Go Go.Vx Go.Proofs.Tryz Go.ChangeShapes Go.WideShapes Go.ChangeAt Go.RowKit
namespace Go.Proofs.YtdjlkahbpdoemaaGreatDoor
variable {D DP DW:DataW Value}{hw n t:Int}{G GP GW:Int->Nat}{Q:Int->Value}{es:List En}{bs:Lp}{a cb i l mb mp mw rc xb:Nat}{w w2 w3 wr wx:Z0}{U:Z1}
theorem anv(a L n:Nat)(ha:a<4294967296)(hn:n<=32):bits BinOp.and IntKind.u32 ((a:Int)/2^L) ((2^n - 1) % 4294967296)=((a/2^L % 2^n:Nat):Int):=by
 have e1:((a:Int)/2^L)=((a/2^L:Nat):Int):=by push_cast;rfl
 have h1:a/2^L<4294967296:=Nat.lt_of_le_of_lt (Nat.div_le_self _ _) ha;have d:2^n<=4294967296:=by
  have:2^n<=2^32:=Nat.pow_le_pow_right I hn;simpa using this
 have e:0<2^n:=Nat.pos_of_ne_zero (by simp);have b:(((2:Int)^n - 1) % 4294967296)=(((2^n - 1)*2^0:Nat):Int):=by
  have c:((2:Int)^n)=((2^n:Nat):Int):=by push_cast;rfl
  rw[c];have:((2^n:Nat):Int) - 1=((2^n - 1:Nat):Int):=Z;rw[this,Nat.pow_zero,Nat.mul_one];omega
 rw[e1,b];generalize a/2^L=q at h1;have:=ir 0 n 1 ((2^n:Nat):Int) (q:Int) (((2^n - 1)*2^0:Nat):Int) Z Z rfl rfl rfl (by rw[Nat.pow_zero,Nat.mul_one];omega);rw[this];simp
theorem anu(a L n:Nat)(ha:a<4294967296)(b:L<=32)(hn:n<=32)(w):Zk 360 #[J (a:Int),O (L:Int),O (n:Int)] w λe w'=>Zr e (J ((a/2^L % 2^n:Nat):Int))/\∃q,w'=w.drewN q:=by
 have h1:¬(L:Int)<0:=Z;have c:¬(n:Int)<0:=Z;go_enter func360,ntmps360;go_wp2_with fail;go_quiet (fail);go_wp2;go_ret;exact⟨by show Ending.returned (Value.int .u32 (bits BinOp.and IntKind.u32 ((a:Int)/2^L) ((2^n - 1) % 4294967296)))=_;rw[anv a L n ha hn],_,rfl⟩
def fW(bs:Lp)(a:Nat)(c:Cp)(l:Nat):Sl×Nat×Int:=
 match bq bs c.num with
 |none=>((-1, -1),0,12)
 |some n=>
  if c.kind=5 then
   if c.aC<0\/32<c.aC\/c.aC+(jx n:Int)=0\/(l:Int)<c.aC+(jx n:Int) then ((-1, -1),0,9)
   else if ((lM a l c.aC.toNat:Nat):Int)=c.guard then ((c.num,((lM a (l - c.aC.toNat) (jx n):Nat):Int)),l - c.aC.toNat - jx n,0)
   else ((-1, -1),0,9)
  else ((-1, -1),0,12)
def AF(bs:Lp)(es:List En)(a f:Nat)(r:Sl×Nat×Int):Sl×Int:=if r.2.2≠0\/r.2.1=0 then (r.1,r.2.2) else match jW es r.1 with|none=>((-1, -1),11)|some k=>yM bs es a f (es.getD k .df).cap r.2.1
theorem X6{c:Cp}(h:bq bs c.num=none):fW bs a c l=((-1, -1),0,12):=by unfold fW;rw[h]
theorem QX{c:Cp}(h:bq bs c.num=some n)(h1:c.kind≠5):fW bs a c l=((-1, -1),0,12):=by unfold fW;rw[h];dsimp only;rw[if_neg h1]
theorem FO{c:Cp}(h:bq bs c.num=some n)(h1:c.kind=5)(b:c.aC<0\/32<c.aC\/c.aC+(jx n:Int)=0\/(l:Int)<c.aC+(jx n:Int)):fW bs a c l=((-1, -1),0,9):=by unfold fW;rw[h];dsimp only;rw[if_pos h1,if_pos b]
theorem QY{c:Cp}(h:bq bs c.num=some n)(h1:c.kind=5)(b:¬(c.aC<0\/32<c.aC\/c.aC+(jx n:Int)=0\/(l:Int)<c.aC+(jx n:Int)))(d:((lM a l c.aC.toNat:Nat):Int)≠c.guard):fW bs a c l=((-1, -1),0,9):=by unfold fW;rw[h];dsimp only;rw[if_pos h1,if_neg b,if_neg d]
theorem QZ{c:Cp}(h:bq bs c.num=some n)(h1:c.kind=5)(b:¬(c.aC<0\/32<c.aC\/c.aC+(jx n:Int)=0\/(l:Int)<c.aC+(jx n:Int)))(d:((lM a l c.aC.toNat:Nat):Int)=c.guard):fW bs a c l=((c.num,((lM a (l - c.aC.toNat) (jx n):Nat):Int)),l - c.aC.toNat - jx n,0):=by unfold fW;rw[h];dsimp only;rw[if_pos h1,if_neg b,if_pos d]
theorem ajV(bs es a f c l):yM bs es a (f+1) c l=AF bs es a f (fW bs a c l):=by
 rw[yM];cases hs:bq bs c.num with
 |none=>rw[X6 hs];unfold AF;rw[if_pos (Or.inl I)]
 |some n=>
  dsimp only;by_cases h1:c.kind=5
  ·rw[if_pos h1];by_cases b:c.aC<0\/32<c.aC\/c.aC+(jx n:Int)=0\/(l:Int)<c.aC+(jx n:Int)
   ·rw[if_pos b,FO hs h1 b];unfold AF;rw[if_pos (Or.inl I)]
   rw[if_neg b];by_cases d:((lM a l c.aC.toNat:Nat):Int)=c.guard
   ·rw[if_pos d,QZ hs h1 b d];unfold AF;dsimp only;by_cases e:l - c.aC.toNat - jx n=0
    ·rw[if_pos e,if_pos (Or.inr e)]
    rw[if_neg e,if_neg (λh=>h.elim (λh=>h rfl) e)];cases jW es (c.num,((lM a (l - c.aC.toNat) (jx n):Nat):Int))<;>rfl
   rw[if_neg d,QY hs h1 b d];unfold AF;rw[if_pos (Or.inl I)]
  rw[if_neg h1,QX hs h1];unfold AF;rw[if_pos (Or.inl I)]
theorem aoW:∀R:Nat,R<=6->(Lib.bitLen (2^R):Int)=(R:Int)+1:=I
section
variable {Q:Sl->Pl}
theorem acK(h:dC U w xb mb D G bs Q)(N:∀b∈bs,iO b.2=true)(c)(B:af c.num)(a:Nat)(ha:a<4294967296)(l:Nat)(hl:l<=32):Zk 336 #[M xb,.agg #[O c.kind,O c.num,O c.rights,J c.bh,J c.guard,O c.aC,O c.root,J c.va],J (a:Int),O (l:Int)] w λe w'=>Zr e (.tuple #[dU (fW bs a c l).1,O ((fW bs a c l).2.1:Int),O (fW bs a c l).2.2])/\Zq w w':=by
 have⟨d0,d1,d2,d3,d4,d5,d6,d7⟩:=c;dsimp only at B|-;obtain⟨w1,f⟩:=Ze ((w.alloc (.cells #[O d0,O d1,O d2,J d3,J d4,O d5,O d6,J d7] 84)).alloc (.cells #[O 0,O 0] 45));have u:Zq w w1:=by rw[f];exact((H.refl _ w).alloc _).alloc _
 have P:w1.heap[w.heap.size+1]?=some (.cells #[O 0,O 0] 45 (0,0)):=by
  rw[f];have:=heap_alloc_last (w.alloc (.cells #[O d0,O d1,O d2,J d3,J d4,O d5,O d6,J d7] 84)) (.cells #[O 0,O 0] 45);simpa using this
 have hy:w1.heap[w.heap.size]?=some (.cells #[O d0,O d1,O d2,J d3,J d4,O d5,O d6,J d7] 84 (0,0)):=by
  rw[f,RowKit.Below.heap_alloc _ _ _ (by simp)];exact heap_alloc_last w _
 have m:=Y (acn (h.quiet u) d1 B);have⟨⟨z0,o⟩,zf⟩:=vz P;have⟨⟨y0,y1,y2,y3,y4,y5,y6,y7⟩,_⟩:=lQ hy;have⟨⟨n0,n1⟩,_⟩:=vz (h.quiet u).ns;have HO:=Y u;have C:Hid (∀n,bq bs d1=some n->iO n=true/\1<=n/\n<=64):=λn hn=>⟨VO N hn,h.bn d1 n hn⟩;have⟨rc,g⟩:=Ze (w.heap.size+1);have⟨cb,i⟩:=Ze (w.heap.size);have KQ:Hid (w.heap.size<=rc):=by show w.heap.size<=rc;omega
 have p:Hid (∀wx s0 s1,Zq w1 wx->Zq w ((wx.setCell (E rc 0) s0).setCell (E rc 1) s1)):=λwx s0 s1 hx=>H.beyond (u.trans hx) (QB wx rc _ _) (λj hj=>by subst hj;exact KQ.j)
 rw[<-g] at z0 o zf;rw[<-i] at y0 y1 y2 y3 y4 y5 y6 y7;have S:=Y (λL n hL hn w=>anu a L n ha hL hn w);have s:=Y (λ(x:Int) (w:Z0) h0 h1=>bits_Len x w h0 h1);clear h u P hy N B
 cases hs:bq bs d1 with
 |none=>
  have k:Hid (fW bs a ⟨d0,d1,d2,d3,d4,d5,d6,d7⟩ l=((-1, -1),0,12)):=by show fW bs a ⟨d0,d1,d2,d3,d4,d5,d6,d7⟩ l=_;unfold fW;dsimp only;rw[hs]
  have y:vA bs d1=(0,6):=by unfold vA;rw[hs]
  rw[y] at m;clear y hs C;by_cases hk:d0=5
  ·subst hk;go_enter func336,ntmps336;go_upto_region 1 with fail
   rw[<-f,<-g,<-i];clear f g i;go_wp2_with fail;refine m.j.m ?_;rintro e w2 ⟨rfl,rfl⟩;go_wp2_with fail;refine bodyPost_ret (v:=.tuple #[dU (-1, -1),O 0,O 12]) ?_ rfl ⟨by rw[k.j];rfl,p.j _ _ _ (H.refl _ _)⟩;simp[results,results336,go_sem,dU,z0,o]
  have iV:(d0==5)=false:=beq_eq_false_iff_ne.2 hk;go_enter func336,ntmps336;go_upto_region 1 with fail
  rw[<-f,<-g,<-i];clear f g i;go_wp2_with fail;refine m.j.m ?_;rintro e w2 ⟨rfl,rfl⟩;go_wp2_with fail;refine bodyPost_ret (v:=.tuple #[dU (-1, -1),O 0,O 12]) ?_ rfl ⟨by rw[k.j];rfl,p.j _ _ _ (H.refl _ _)⟩
  simp[results,results336,go_sem,dU,z0,o]
 |some n=>
  obtain⟨T,rI,fq⟩:=C.j n hs;obtain⟨R,V,W,X⟩:=Wq T;have y:vA bs d1=(n,0):=by unfold vA;rw[hs]
  rw[y] at m
  have t:Hid ((Lib.bitLen n.toNat:Int)=(R:Int)+1):=by
   show(Lib.bitLen n.toNat:Int)=(R:Int)+1;rw[X,Int.toNat_natCast];exact aoW R W
  have r:=Y hs;have z:=Y V;clear y hs C T X V;by_cases hk:d0=5
  ·subst hk;by_cases g1:d5<0
   ·have k:Hid (fW bs a ⟨5,d1,d2,d3,d4,d5,d6,d7⟩ l=((-1, -1),0,9)):=FO r.j rfl (Or.inl g1);go_enter func336,ntmps336;go_upto_region 1 with fail
    rw[<-f,<-g,<-i];clear f g i;go_wp2_with fail;refine m.j.m ?_;rintro e w2 ⟨rfl,rfl⟩;go_wp2_with fail;refine(s.j _ _ Z Z).m ?_;rintro e w3 ⟨rfl,rfl⟩;rw[t.j];go_wp2_with fail;refine bodyPost_ret (v:=.tuple #[dU (-1, -1),O 0,O 9]) ?_ rfl ⟨by rw[k.j];rfl,p.j _ _ _ (H.refl _ _)⟩;simp[results,results336,go_sem,dU,z0,o]
   by_cases g2:32<d5
   ·have k:Hid (fW bs a ⟨5,d1,d2,d3,d4,d5,d6,d7⟩ l=((-1, -1),0,9)):=FO r.j rfl (Or.inr (Or.inl g2));go_enter func336,ntmps336;go_upto_region 1 with fail
    rw[<-f,<-g,<-i];clear f g i;go_wp2_with fail;refine m.j.m ?_;rintro e w2 ⟨rfl,rfl⟩;go_wp2_with fail;refine(s.j _ _ Z Z).m ?_;rintro e w3 ⟨rfl,rfl⟩;rw[t.j];go_wp2_with fail;refine bodyPost_ret (v:=.tuple #[dU (-1, -1),O 0,O 9]) ?_ rfl ⟨by rw[k.j];rfl,p.j _ _ _ (H.refl _ _)⟩;simp[results,results336,go_sem,dU,z0,o]
   obtain⟨d,rfl⟩:∃d:Nat,d5=(d:Int):=⟨d5.toNat,Z⟩
   have aL:=Zh ((d:Int)+(R:Int)) Z;by_cases g3:(d:Int)+(R:Int)=0
   ·have k:Hid (fW bs a ⟨5,d1,d2,d3,d4,d,d6,d7⟩ l=((-1, -1),0,9)):=FO r.j rfl (Or.inr (Or.inr (Or.inl (by rw[z.j];exact g3))));have g4:((d:Int)+(R:Int)==0)=true:=beq_iff_eq.2 g3;go_enter func336,ntmps336;go_upto_region 1 with fail
    rw[<-f,<-g,<-i];clear f g i;go_wp2_with fail;refine m.j.m ?_;rintro e w2 ⟨rfl,rfl⟩;go_wp2_with fail;refine(s.j _ _ Z Z).m ?_;rintro e w3 ⟨rfl,rfl⟩;rw[t.j];go_wp2_with fail;refine bodyPost_ret (v:=.tuple #[dU (-1, -1),O 0,O 9]) ?_ rfl ⟨by rw[k.j];rfl,p.j _ _ _ (H.refl _ _)⟩;simp[results,results336,go_sem,dU,z0,o]
   have g4:((d:Int)+(R:Int)==0)=false:=beq_eq_false_iff_ne.2 g3;by_cases g5:(l:Int)<(d:Int)+(R:Int)
   ·have k:Hid (fW bs a ⟨5,d1,d2,d3,d4,d,d6,d7⟩ l=((-1, -1),0,9)):=FO r.j rfl (Or.inr (Or.inr (Or.inr (by rw[z.j];exact g5))));go_enter func336,ntmps336;go_upto_region 1 with fail
    rw[<-f,<-g,<-i];clear f g i;go_wp2_with fail;refine m.j.m ?_;rintro e w2 ⟨rfl,rfl⟩;go_wp2_with fail;refine(s.j _ _ Z Z).m ?_;rintro e w3 ⟨rfl,rfl⟩;rw[t.j];go_wp2_with fail;refine bodyPost_ret (v:=.tuple #[dU (-1, -1),O 0,O 9]) ?_ rfl ⟨by rw[k.j];rfl,p.j _ _ _ (H.refl _ _)⟩;simp[results,results336,go_sem,dU,z0,o]
   have A:¬((d:Int)<0\/32<(d:Int)\/(d:Int)+(jx n:Int)=0\/(l:Int)<(d:Int)+(jx n:Int)):=by rw[z.j];omega
   have F:Hid (∀w,Zk 360 #[J (a:Int),O ((l:Int) - (d:Int)),O (d:Int)] w λe w'=>Zr e (J ((lM a l d:Nat):Int))/\∃q,w'=w.drewN q):=λw=>by
    have e:(l:Int) - (d:Int)=((l - d:Nat):Int):=Z;rw[e];exact S.j (l - d) d Z Z w
   have cO:=Zh ((l:Int) - (d:Int)) Z;have gB:=Zh ((l:Int) - (d:Int) - (R:Int)) Z;by_cases g6:((lM a l d:Nat):Int)=d4
   ·have k:Hid (fW bs a ⟨5,d1,d2,d3,d4,d,d6,d7⟩ l=((d1,((lM a (l - d) R:Nat):Int)),l - d - R,0)):=by
     have:=QZ (bs:=bs) (a:=a) (c:=⟨5,d1,d2,d3,d4,d,d6,d7⟩) (l:=l) r.j rfl A (by simpa using g6);rw[z.j] at this;show fW bs a ⟨5,d1,d2,d3,d4,d,d6,d7⟩ l=((d1,((lM a (l - d) R:Nat):Int)),l - d - R,0)
     simpa using this
    have qX:Hid (∀w,Zk 360 #[J (a:Int),O ((l:Int) - (d:Int) - (R:Int)),O (R:Int)] w λe w'=>Zr e (J ((lM a (l - d) R:Nat):Int))/\∃q,w'=w.drewN q):=λw=>by
     have e:(l:Int) - (d:Int) - (R:Int)=((l - d - R:Nat):Int):=Z;rw[e];exact S.j (l - d - R) R Z Z w
    have K:lM a (l - d) R<64:=by
     unfold lM;have h1:a/2^(l - d - R) % 2^R<2^R:=Nat.mod_lt _ (Nat.pos_of_ne_zero (by simp));have h2:2^R<=2^6:=Nat.pow_le_pow_right I W;omega
    have aa:Hid (((lM a l d:Nat):Int)=d4):=g6;have EZ:Hid ((((l - d - R:Nat):Int))=(l:Int) - (d:Int) - (R:Int)):=by show(((l - d - R:Nat):Int))=_;omega
    rw[g6] at F;clear g6 A;generalize lM a (l - d) R=dg at k qX K;go_enter func336,ntmps336;go_upto_region 1 with fail
    rw[<-f,<-g,<-i];clear f g i;go_wp2_with fail;refine m.j.m ?_;rintro e w2 ⟨rfl,rfl⟩;go_wp2_with fail;refine(s.j _ _ Z Z).m ?_;rintro e w3 ⟨rfl,rfl⟩;rw[t.j];go_wp2_with fail;go_quiet (refine Calls.quiet_of (F.j _));go_wp2_with fail
    go_region_law (refine dc rfl 360 #[.tmp 75,.tmp 76,.tmp 77] #[27,3,3] rfl #[J (a:Int),O ((l:Int) - (d:Int) - (R:Int)),O (R:Int)] (by first|rfl|simp[Act.eval,go_sem]) (by simp[go_sem]) (qX.j _) ?_;rintro e w5 ⟨rfl,q,rfl⟩;refine⟨_,rfl,?_⟩)
    all_goals
     go_wp2_with fail;refine bodyPost_ret (v:=.tuple #[dU (d1,(dg:Int)),O ((l - d - R:Nat):Int),O 0]) ?_ rfl ⟨by rw[k.j],p.j _ _ _ (by repeat' (first|exact H.refl _ _|refine H.drewN ?_ _|refine H.drew ?_))⟩;have oI:=Zh (dg:Int) Z;rw[EZ.j];simp[results,results336,go_sem,dU,z0,o,oI]
   have k:Hid (fW bs a ⟨5,d1,d2,d3,d4,d,d6,d7⟩ l=((-1, -1),0,9)):=QY (c:=⟨5,d1,d2,d3,d4,d,d6,d7⟩) r.j rfl A (by simpa using g6);have g7:(((lM a l d:Nat):Int)==d4)=false:=beq_eq_false_iff_ne.2 g6;clear A;go_enter func336,ntmps336;go_upto_region 1 with fail
   rw[<-f,<-g,<-i];clear f g i;go_wp2_with fail;refine m.j.m ?_;rintro e w2 ⟨rfl,rfl⟩;go_wp2_with fail;refine(s.j _ _ Z Z).m ?_;rintro e w3 ⟨rfl,rfl⟩;rw[t.j];go_wp2_with fail;go_quiet (refine Calls.quiet_of (F.j _));go_wp2_with fail;refine bodyPost_ret (v:=.tuple #[dU (-1, -1),O 0,O 9]) ?_ rfl ⟨by rw[k.j];rfl,p.j _ _ _ (by repeat' (first|exact H.refl _ _|refine H.drewN ?_ _|refine H.drew ?_))⟩;simp[results,results336,go_sem,dU,z0,o]
  have iV:(d0==5)=false:=beq_eq_false_iff_ne.2 hk;have k:Hid (fW bs a ⟨d0,d1,d2,d3,d4,d5,d6,d7⟩ l=((-1, -1),0,12)):=QX r.j hk;go_enter func336,ntmps336;go_upto_region 1 with fail
  rw[<-f,<-g,<-i];clear f g i;go_wp2_with fail;refine m.j.m ?_;rintro e w2 ⟨rfl,rfl⟩;go_wp2_with fail;refine bodyPost_ret (v:=.tuple #[dU (-1, -1),O 0,O 12]) ?_ rfl ⟨by rw[k.j];rfl,p.j _ _ _ (H.refl _ _)⟩;simp[results,results336,go_sem,dU,z0,o]
end
theorem akh(f:∀b∈bs,iO b.2=true){c:Cp}(h:(fW bs a c l).2.2=0):(∃n,bq bs (fW bs a c l).1.1=some n/\0<=(fW bs a c l).1.2/\(fW bs a c l).1.2<n)/\(fW bs a c l).2.1<l\/(fW bs a c l).2.1=0:=by
 cases hs:bq bs c.num with
 |none=>rw[X6 hs] at h;cases h
 |some n=>
  by_cases h1:c.kind=5
  ·by_cases d:c.aC<0\/32<c.aC\/c.aC+(jx n:Int)=0\/(l:Int)<c.aC+(jx n:Int)
   ·rw[FO hs h1 d] at h;cases h
   by_cases e:((lM a l c.aC.toNat:Nat):Int)=c.guard
   ·rw[QZ hs h1 d e];dsimp only;left;have⟨R,g,j,i⟩:=Wq (VO f hs);refine⟨⟨n,hs,Int.natCast_nonneg _,?_⟩,Z⟩;rw[g,i];unfold lM;have:=Nat.mod_lt (a/2^(l - c.aC.toNat - R)) (Nat.pos_of_ne_zero (show 2^R≠0 by simp));exact Int.ofNat_lt.2 this
   rw[QY hs h1 d e] at h;cases h
  rw[QX hs h1] at h;cases h
theorem amV{s:Sl}(h:bq bs s.1=some n)(a:0<=s.2)(h1:s.2<n):aI bs es s=match jW es s with|none=>(lv,11)|some k=>((es.getD k .df).cap,0):=by
 unfold aI;rw[NU h a h1];cases jW es s<;>rfl
structure xT(w:Z0)(cb rc:Nat)(c:Cp)(wr:Z0):Prop where
 on:Zq w wr
 c:wr.heap[cb]?=some (.cells #[O c.kind,O c.num,O c.rights,J c.bh,J c.guard,O c.aC,O c.root,J c.va] 84 (0,0))
 r:wr.heap[rc]?=some (.cells #[O 0,O 0] 45 (0,0))
 ge:w.heap.size<=cb/\w.heap.size<=rc
theorem xT.quiet{c:Cp}(h:xT w cb rc c wr)(a:Zq wr wx):xT w cb rc c wx:=
 ⟨h.on.trans a,(a.block cb (aB h.c) id).trans h.c,(a.block rc (aB h.r) id).trans h.r,h.ge⟩
theorem xT.next{c:Cp}(h:xT w cb rc c wr)(e):xT w cb rc e ((((((((wr.setCell (E cb 0) (O e.kind)).setCell (E cb 1) (O e.num)).setCell (E cb 2) (O e.rights)).setCell (E cb 3) (J e.bh)).setCell (E cb 4) (J e.guard)).setCell (E cb 5) (O e.aC)).setCell (E cb 6) (O e.root)).setCell (E cb 7) (J e.va)):=by
 have a:=aik wr cb (O e.kind) (O e.num) (O e.rights) (J e.bh) (J e.guard) (O e.aC) (O e.root) (J e.va);exact⟨H.beyond h.on a (λj b=>by subst b;exact h.ge.1),aov h.c _ _ _ _ _ _ _ _,by rw[a.block rc (aB h.r) (ef h.r h.c I)];exact h.r,h.ge⟩
theorem acI(p:jo U w xb bs es)(c)(cJ:af c.num)(a:Nat)(ha:a<4294967296)(l):Zk 302 #[M xb,.agg #[O c.kind,O c.num,O c.rights,J c.bh,J c.guard,O c.aC,O c.root,J c.va],J (a:Int),O l] w λe w'=>Zr e (.tuple #[dU (zZ bs es a c l).1,O (zZ bs es a c l).2])/\Zq w w':=by
 obtain⟨w1,m⟩:=Ze ((w.alloc (.cells #[O c.kind,O c.num,O c.rights,J c.bh,J c.guard,O c.aC,O c.root,J c.va] 84)).alloc (.cells #[O 0,O 0] 45));have dp:Zq w w1:=by rw[m];exact((H.refl _ w).alloc _).alloc _
 have bC:w1.heap[w.heap.size]?=some (.cells #[O c.kind,O c.num,O c.rights,J c.bh,J c.guard,O c.aC,O c.root,J c.va] 84 (0,0)):=by
  rw[m,Below.heap_alloc _ _ _ (by simp)];exact heap_alloc_last w _
 have bR:w1.heap[w.heap.size+1]?=some (.cells #[O 0,O 0] 45 (0,0)):=by rw[m];exact Mv (H.refl _ _)
 obtain⟨cb,t⟩:=Ze (w.heap.size);obtain⟨rc,u⟩:=Ze (w.heap.size+1);rw[<-t] at bC;rw[<-u] at bR;have H1:Hid (xT w cb rc c w1):=⟨dp,bC,bR,Z,Z⟩
 have HC:=Y p
 have OK:Hid (∀i,Zq w i->i.cell? (E 1 0)=some (O (-1))/\i.cell? (E 1 1)=some (O (-1))):=λi ho=>by
  obtain⟨mb,D,G,h,_⟩:=p;exact(vz (h.quiet ho).ns).1
 have bK:Hid (∀c i x y,xT w cb rc c i->Zq w ((i.setCell (E rc 0) x).setCell (E rc 1) y)):=λc i x y hv=>hv.on.Mu (QB i rc x y) hv.ge.2
 have G1:Hid (∀c2:Cp,af c2.num->∀z:Nat,z<=32->∀i,Zq w i->Zk 336 #[M xb,.agg #[O c2.kind,O c2.num,O c2.rights,J c2.bh,J c2.guard,O c2.aC,O c2.root,J c2.va],J (a:Int),O (z:Int)] i λe w'=>Zr e (.tuple #[dU (fW bs a c2 z).1,O ((fW bs a c2 z).2.1:Int),O (fW bs a c2 z).2.2])/\Zq i w'):=λc2 h2 z K i ho=>by
  obtain⟨mb,D,G,h,hf,_⟩:=p;exact acK (h.quiet ho) (λb hb=>(hf.bn b hb).1) c2 h2 a ha z K
 have Ut:Hid (∀s:Sl,af s.1->∀i,Zq w i->Zk 55 #[M xb,.agg #[O s.1,O s.2]] i λe w'=>Zr e (.tuple #[bz (aI bs es s).1,O (aI bs es s).2])/\Zq i w'):=λs hs i ho=>UM (p.quiet ho) s hs
 have ad:Hid (∀b∈bs,iO b.2=true):=by obtain⟨mb,D,G,h,hf,_⟩:=p;exact λb hb=>(hf.bn b hb).1
 have mB:Hid (∀s n,bq bs s=some n->af s):=by
  obtain⟨mb,D,G,h,_⟩:=p;exact λs n hs=>h.ib _ (Ma hs)
 have js:Hid (∀s k,jW es s=some k->af (es.getD k .df).cap.num):=by
  obtain⟨mb,D,G,h,hf,hx,_⟩:=p;intro s k hk;obtain⟨hi,_⟩:=Gv hk;rw[getD_at es k hi];exact hx.nm _ (List.getElem_mem hi)
 have EU:=Y cJ;clear p dp bC bR cJ;by_cases A:l<1\/32<l
 ·have HG:Hid (zZ bs es a c l=((-1, -1),1)):=if_pos A;obtain⟨⟨z0,o⟩,zf⟩:=vz H1.j.r;obtain⟨n0,n1⟩:=OK.j w1 H1.j.on;by_cases fQ:l<1
  ·clear A;go_enter func302,ntmps302;go_upto_region 1 with fail
   rw[<-m,<-u,<-t];clear m u t;go_wp2_with fail;refine bodyPost_ret (v:=.tuple #[dU (-1, -1),O 1]) ?_ rfl ⟨by rw[HG.j],bK.j _ _ _ _ H1.j⟩;simp[results,results302,go_sem,dU,z0,o]
  have K:32<l:=Z;clear A;go_enter func302,ntmps302;go_upto_region 1 with fail
  rw[<-m,<-u,<-t];clear m u t;go_wp2_with fail;refine bodyPost_ret (v:=.tuple #[dU (-1, -1),O 1]) ?_ rfl ⟨by rw[HG.j],bK.j _ _ _ _ H1.j⟩;simp[results,results302,go_sem,dU,z0,o]
 have fQ:¬l<1:=λh=>A (Or.inl h)
 have K:¬32<l:=λh=>A (Or.inr h)
 have aa:Hid (zZ bs es a c l=yM bs es a 33 c l.toNat):=if_neg A;clear A;obtain⟨L,rfl⟩:∃L:Nat,l=(L:Int):=⟨l.toNat,Z⟩
 obtain⟨vW,SN⟩:=Ze (yM bs es a 33 c L);have nj:Hid (yM bs es a 33 c L=vW):=SN.symm;have fp:Hid (zZ bs es a c (L:Int)=vW):=by show zZ bs es a c (L:Int)=vW;rw[aa.j,SN];rfl
 clear SN aa;go_enter func302,ntmps302;go_upto_region 1 with fail
 rw[<-m,<-u,<-t];clear m u t
 go_wp2
 go_loopw [3,10,11,12] (λd _ _ _ wr=>∃(f l:Nat) (c:Cp),d=O (l:Int)/\1<=l/\l<=32/\l<f/\Hid (yM bs es a f c l=vW)/\Hid (af c.num)/\Hid (xT w cb rc c wr)) (λd _ _ _ _=>(RowKit.intOf d).toNat)
 case atStart=>exact⟨33,L,c,rfl,Z,Z,Z,nj,EU,H1⟩
 case round=>
  clear nj H1 EU fQ K;obtain⟨f,l,c2,rfl,fQ,K,R8,HA,EU,N⟩:=hrel;have P:=Y (G1.j c2 EU.j l K wr N.j.on);obtain⟨f,rfl⟩:∃g,f=g+1:=⟨f - 1,Z⟩
  have NA:=ajV bs es a f c2 l;rw[HA.j] at NA;have Lm:=Y (akh (a:=a) (c:=c2) (l:=l) ad.j);generalize fW bs a c2 l=ld at P NA Lm;obtain⟨⟨s1,s2⟩,rest,Q⟩:=ld;dsimp only at P Lm;have Un:=Y (⟨N.j.c,N.j.r⟩:_/\_);obtain⟨⟨R,S,T,y3,y4,V,y6,W⟩,yf⟩:=lQ N.j.c;obtain⟨d0,d1,d2,d3,d4,d5,d6,d7⟩:=c2;dsimp only at R S T y3 y4 V y6 W P;have C8:=Y NA;clear NA HA;unfold dU at P;go_wp2_with fail;refine P.j.m ?_;rintro e w2 ⟨rfl,gH⟩;have yd:=Y (N.j.quiet gH);clear gH R S T y3 y4 V y6 W yf N P;dsimp only;go_upto_region 4 with fail
  obtain⟨w3,cO⟩:=Ze (w2.alloc (.cells #[O s1,O s2] 45));rw[<-cO];have Gl:=Za cO;have fR:w3.heap[w2.heap.size]?=some (.cells #[O s1,O s2] 45 (0,0)):=by rw[cO];exact heap_alloc_last w2 _
  obtain⟨⟨t0,t1⟩,tf⟩:=vz fR;have q:=Y (yd.j.quiet Gl);obtain⟨tb,dk⟩:=Ze (w2.heap.size);rw[<-dk] at t0 t1 tf|-;obtain⟨⟨z0,o⟩,zf⟩:=vz q.j.r;clear cO Gl fR dk yd;by_cases j9:Q=0
  ·subst j9;by_cases RF:rest=0
   ·subst RF
    have B:Hid (vW=((s1,s2),0)):=by
     show vW=((s1,s2),0)
     rw[C8.j];unfold AF;rw[if_pos (Or.inr rfl)]
    go_wp2_with fail;refine bodyPost_ret (v:=.tuple #[dU (s1,s2),O 0]) ?_ rfl ⟨by rw[fp.j,B.j],bK.j _ _ _ _ q.j⟩;simp[results,results302,go_sem,dU,z0,o]
   have ag:((rest:Int)==0)=false:=ZF
   obtain⟨⟨n,hn,MY,F8⟩,lJ⟩:(∃n,bq bs s1=some n/\0<=s2/\s2<n)/\rest<l:=by
    rcases Lm.j rfl with h|h
    ·exact h
    exact absurd h RF
   have X:=amV (es:=es) (s:=(s1,s2)) hn MY F8
   have r:vW=match jW es (s1,s2) with|none=>((-1, -1),11)|some k=>yM bs es a f (es.getD k .df).cap rest:=by
    rw[C8.j];unfold AF;rw[if_neg (λh=>h.elim (λh=>h rfl) RF)]
    all_goals (cases jW es (s1,s2)<;>rfl)
   have j:=Y (Ut.j (s1,s2) (mB.j _ n hn) w3 q.j.on)
   cases rQ:jW es (s1,s2) with
   |none=>
    rw[rQ] at X r;rw[X] at j;unfold bz lv at j;have B:=Y r;clear X r hn MY F8 rQ C8 Lm;go_wp2_with fail;refine j.j.m ?_;rintro e w4 ⟨rfl,Cl⟩;have C:=Y (q.j.quiet Cl);obtain⟨⟨R,S,T,y3,y4,V,y6,W⟩,yf⟩:=lQ C.j.c;clear Cl t0 t1 tf z0 o zf j q;go_upto_region 7 with fail
    obtain⟨w5,F⟩:=Ze (((((((((w4.setCell (E cb 0) (O 0)).setCell (E cb 1) (O 0)).setCell (E cb 2) (O 0)).setCell (E cb 3) (J 0)).setCell (E cb 4) (J 0)).setCell (E cb 5) (O 0)).setCell (E cb 6) (O 0)).setCell (E cb 7) (J 0)));rw[<-F];have JI:xT w cb rc lv w5:=by rw[F];exact C.j.next lv
    have Lr:=Y JI;obtain⟨⟨z0,o⟩,zf⟩:=vz Lr.j.r;obtain⟨n0,n1⟩:=OK.j w5 Lr.j.on;clear F JI R S T y3 y4 V y6 W yf C;go_wp2_with fail;refine bodyPost_ret (v:=.tuple #[dU (-1, -1),O 11]) ?_ rfl ⟨by rw[fp.j,B.j],bK.j _ _ _ _ Lr.j⟩
    simp[results,results302,go_sem,dU,z0,o]
   |some k=>
    rw[rQ] at X r;rw[X] at j;have ab:=Y (js.j _ _ rQ);dsimp only at r j;generalize (es.getD k .df).cap=c3 at r j ab;obtain⟨e0,e1,e2,e3,e4,e5,e6,e7⟩:=c3;unfold bz at j;dsimp only at j;have B:=Y r.symm;clear X r hn MY F8 rQ C8 Lm;go_wp2_with fail;refine j.j.m ?_;rintro e w4 ⟨rfl,Cl⟩;have C:=Y (q.j.quiet Cl);obtain⟨⟨R,S,T,y3,y4,V,y6,W⟩,yf⟩:=lQ C.j.c;clear Cl t0 t1 tf z0 o zf j q;go_upto_region 7 with fail
    obtain⟨w5,F⟩:=Ze (((((((((w4.setCell (E cb 0) (O e0)).setCell (E cb 1) (O e1)).setCell (E cb 2) (O e2)).setCell (E cb 3) (J e3)).setCell (E cb 4) (J e4)).setCell (E cb 5) (O e5)).setCell (E cb 6) (O e6)).setCell (E cb 7) (J e7)));rw[<-F];have JI:xT w cb rc ⟨e0,e1,e2,e3,e4,e5,e6,e7⟩ w5:=by rw[F];exact C.j.next ⟨e0,e1,e2,e3,e4,e5,e6,e7⟩
    have Lr:=Y JI;clear F JI R S T y3 y4 V y6 W yf C
    go_wp2
    go_roundw
    case rel=>exact⟨f,rest,⟨e0,e1,e2,e3,e4,e5,e6,e7⟩,rfl,Z,Z,Z,B,ab,Lr⟩
    case measure=>exact Zm
  have As:(Q==0)=false:=beq_eq_false_iff_ne.2 j9;have Nw:(Q !=0)=true:=by simp[bne,As]
  have B:Hid (vW=((s1,s2),Q)):=by
   show vW=((s1,s2),Q)
   rw[C8.j];unfold AF;rw[if_pos (Or.inl j9)]
  go_wp2_with fail;refine bodyPost_ret (v:=.tuple #[dU (s1,s2),O Q]) ?_ rfl ⟨by rw[fp.j,B.j],bK.j _ _ _ _ q.j⟩;simp[results,results302,go_sem,dU,z0,o]
theorem aqX(w xb g):Zk 188 #[M xb,M g,.bool false] w λe w'=>Zr e (.agg #[.int .i64 17,.int .i64 (-1),.int .u32 0,.int .u32 0,.int .u32 0,.int .u32 0,.int .u32 0,.int .u32 0,.bool false,.bool false,.bool false])/\Zq w w':=by
 have⟨w1,a⟩:=Ze (w.alloc (.cells #[.int .i64 0,.int .i64 0,.int .u32 0,.int .u32 0,.int .u32 0,.int .u32 0,.int .u32 0,.int .u32 0,.bool false,.bool false,.bool false] 244));have⟨rc,b⟩:=Ze (w.heap.size);have f:=Za a;have h:w1.heap[rc]?=some (.cells Iy 244 (0,0)):=a▸b▸heap_alloc_last w _
 have i:Hid (∀w3,Zq w1 w3->EA w3 rc/\∀c,H (λk=>k=rc) w3 c->Zq w c):=λw3 d=>⟨LH (H.keep d h id),λc j=>(f.trans d).Mu j Z⟩;go_enter func188,ntmps188;go_upto_region 1 with fail
 rw[<-a,<-b];clear a b;go_wp2_with fail;refine((Y (λl=>O5 l 17)).j _).m ?_;rintro e w3 ⟨rfl,m⟩;have⟨⟨z0,n,z2,z3,z4,z5,o,p,q,z9,r,t,u⟩,s⟩:=i.j w3 m;go_wp2_with fail;refine bodyPost_ret (v:=.agg #[.int .i64 17,.int .i64 (-1),.int .u32 0,.int .u32 0,.int .u32 0,.int .u32 0,.int .u32 0,.int .u32 0,.bool false,.bool false,.bool false]) ?_ rfl ⟨rfl,(Y s).j _ (yF _ _ _ _ _ _ _ _ _ _ _ _ _)⟩;simp[results,results188,go_sem,z0,n,z2,z3,z4,z5,o,p,q,z9,r]
section
variable {s:Bs}
theorem Od(h0:eE U w xb mp mw DP DW GP GW Q s)(hb:lX s){m:Ms}(hi:pF s.ps n=some i)(P:af n)(ht:tF s.ws t=none)(it:af t)(R:(ue s i).ga=false->hw=2\/hw=3\/hw=4\/hw=7){g:Nat}(S:zE w g ⟨n,t,hw,m⟩)(rN:¬U g)(u:∀x∈s.ws,GW x.bL≠g)(jB:s.ws.length<1000000):
  Zk 188 #[M xb,M g,.bool true] w λe w'=>Zr e (.agg #[.int .i64 0,.int .i64 (-1),.int .u32 0,.int .u32 0,.int .u32 0,.int .u32 0,.int .u32 0,.int .u32 0,.bool true,.bool false,.bool false])/\eQ U w' xb ⟨s.ps,s.ws++[⟨n,t,hw,m⟩]⟩/\Zn U w w':=by
 have⟨w1,o⟩:=Ze (w.alloc (.cells #[.int .i64 0,.int .i64 0,.int .u32 0,.int .u32 0,.int .u32 0,.int .u32 0,.int .u32 0,.int .u32 0,.bool false,.bool false,.bool false] 244));have⟨rc,A⟩:=Ze (w.heap.size);have B:=Za o;have T:w1.heap[rc]?=some (.cells Iy 244 (0,0)):=by rw[o,A];exact heap_alloc_last w _
 have V:w.heap.size<=rc:=Z;have BQ:=aB T;have h:=h0.step B (λ_ _ h=>h.elim) (λ_ h=>h);have eB:=aB S;have l:=H.keep B S id;have W:¬Up U w w1 g:=by
  rintro(b|b)
  ·exact rN b
  omega
 have HZ:=Y (λw3(h3:H (λk=>¬Up U w w1 k) w1 w3)=>LH (LS h3 T V));have yg:=Y (λs2 w3 w7(a1:eQ (Up U w w1) w3 xb s2)(a2:H (λk=>¬Up U w w1 k) w1 w3)(a3:H (λk=>k=rc) w3 w7)=>Ph (O6 xb s2) a1 B a2 V BQ a3);have⟨C,oJ,jy,fF,Rg,tj⟩:=h.place hi;clear jy Rg;have D:=h.quiet ((H.refl (λ_=>False) w1).drew)
 have F:t∉s.ws.map (·.bL):=λb=>by
  obtain⟨j,X⟩:=Py.2 b;rw[ht] at X;cases X
 obtain⟨w3,cR,eH,aA⟩:=D.wm.put (t:=217) (e:=250) underlying217 (by rw[List.length_map];unfold maxLen;omega) t it F g;have Je:H (λk=>k=mw) w1 w3:=((H.refl (λk=>k=mw) w1).drew).trans aA;have d:H (λk=>k=mw) w1 w3.drew:=Je.trans ((H.refl _ w3).drew);have c:∀x∈s.ws,kK GW t g x.bL=GW x.bL:=λx a=>yH GW g (λe=>F (List.mem_map.2 ⟨x,a,e⟩))
 have hN:kK GW t g t=g:=Bt GW t g
 have Gd:i6 w3.drew mw (DW.put (.int .i64 t) (.held (M g))) ((s.ws++[(⟨n,t,hw,m⟩:Wt)]).map (·.bL)) (kK GW t g):=by
  rw[List.map_append];exact eH.keep ((H.refl (λ_=>False) w3).drew) id
 have Ah:zE w3.drew g ⟨n,t,hw,m⟩:=H.keep d l (λe=>h.wm.ne l e);have v5:=Dl Ah;have vd:=Dl (H.keep ((H.refl (λ_=>False) w1).drew) l id);have I8:i6 w3.drew mp DP (s.ps.map (·.num)) GP:=h.pm.keep d (λe=>h.mn e);have r:=I8.look (t:=216) (e:=298) underlying216 MM n P;unfold yK at r;rw[if_pos (Dz.1 ⟨i,hi⟩)] at r;have G:w3.drew.cell? (E xb 0)=some (.map (some mp)):=(cell_of_row _ _ 0 _ _ (0,0) (H.keep d h.x (λe=>h.wm.ne h.x e))).trans rfl;have Tx:=D.c1
 have q5:xU w3.drew (GP n) 2 (qy s.ps[i] (Q n)) 306 (Q n) ((eW s n).map GW):=by
  have q:=h.queue hi C;refine⟨H.keep d q.b (λe=>h.wm.ne q.b e),q.c',q.o.kept d (λk hk e=>?_),q.ne,q.n⟩;obtain⟨cur,hc⟩:=cW q.o hk;exact h.wm.ne hc e
 have K:∀k,(eW s k).map (kK GW t g)=(eW s k).map GW:=λk=>List.map_congr_left (λx a=>by
  obtain⟨z,hz,rfl,_⟩:=IJ a
  exact c z hz)
 have f:∀x∈s.ws++[(⟨n,t,hw,m⟩:Wt)],x∈s.ws\/x=⟨n,t,hw,m⟩:=λx a=>by
  rcases List.mem_append.1 a with a|a
  ·exact Or.inl a
  rw[List.mem_singleton] at a;exact Or.inr a
 have HL:Hid (Zk 266 #[.pointer (some ⟨GP n,2,none⟩),M g] w3.drew λe w'=>(∃x,Zr e x)/\Hid (eQ (Up U w w1) w' xb ⟨s.ps,s.ws++[⟨n,t,hw,m⟩]⟩/\H (λk=>¬Up U w w1 k) w1 w')):=by
  refine(alM q5 g).m ?_;rintro e w' ⟨he,hT⟩
  have e9:(eW s n).map GW++[g]=(eW ⟨s.ps,s.ws++[⟨n,t,hw,m⟩]⟩ n).map (kK GW t g):=by
   rw[XZ,if_pos rfl,List.map_append,K];show _=_++[kK GW t g t]
   rw[hN]
  rw[e9] at hT
  obtain⟨⟨Q',FY⟩,hO⟩:=h.Wn hi C Gd d hT (λx a=>by
    rcases f x a with a|a
    ·rw[c x a];exact h.wb x a
    ·subst a;show w1.heap[kK GW t g t]?=_
     rw[hN];exact l) (λx a y hy b=>by
    rcases f x a with a|a
    ·rcases f y hy with hy|hy
     ·rw[c x a,c y hy] at b;exact h.gw x a y hy b
     subst hy;rw[c x a] at b;exact absurd (b.trans hN) (u x a)
    ·subst a;rcases f y hy with hy|hy
     ·rw[c y hy] at b;exact absurd (b.symm.trans hN) (u y hy)
     rw[hy]) (λp hp aH=>by
    rw[XZ,if_neg (λe=>aH e.symm),List.append_nil]
    exact K _) (λx a=>by
    rcases f x a with a|a
    ·rw[c x a];exact h.uw x a
    subst a;show¬Up U w w1 (kK GW t g t)
    rw[hN];exact W) (by rw[List.length_append,List.length_singleton];omega)
  exact⟨he,⟨hb.waits m hi ht it R,_,_,_,_,_,_,_,FY⟩,hO⟩
 have b0:=vd.c0;have b1:=v5.c1;dsimp only at b0 b1;generalize GP n=gp at r HL;clear h hb hi P ht it R l W u jB C oJ fF tj D F eH aA Je d c hN Gd Ah v5 vd I8 q5 K f;go_enter func188,ntmps188;go_upto_region 1 with fail
 rw[<-o,<-A];clear o A;go_wp2_with fail
 go_region
 all_goals
  clear cR Tx b0;go_wp2_with fail
  go_region_with (go_at_call 266;refine HL.j.m ?_;rintro e w' ⟨⟨x,rfl⟩,N⟩;obtain⟨z0,z1,z2,z3,z4,z5,z6,z7,z8,z9,nw,zf,zl⟩:=HZ.j w' N.j.2)
  all_goals
   clear r G b1;go_wp2_with fail;refine bodyPost_ret (v:=.agg #[.int .i64 0,.int .i64 (-1),.int .u32 0,.int .u32 0,.int .u32 0,.int .u32 0,.int .u32 0,.int .u32 0,.bool true,.bool false,.bool false]) ?_ rfl ⟨rfl,yg.j _ _ _ N.j.1 N.j.2 (yF _ _ _ _ _ _ _ _ _ _ _ _ _)⟩;simp[results,results188,go_sem,z0,z1,z2,z3,z4,z5,z6,z7,z8,z9,nw]
theorem acq(h:eQ U w xb s)(jB:s.ws.length<1000000)(n t)(hn:af n)(it:af t)(m):Zk 104 #[M xb,O n,O t,O 3,mL m] w λe w'=>Zr e (lC (sH s n t 3 m))/\eQ U w' xb (rl s n t 3 m)/\Zn U w w':=by
 have⟨m0,m1,m2,m3,m4,m5⟩:=m;rw[show mL ⟨m0,m1,m2,m3,m4,m5⟩=.agg #[J m0,J m1,J m2,J m3,J m4,J m5] from rfl];have⟨hb,mp,mw,DP,DW,GP,GW,Q,h⟩:=h;have⟨w1,c⟩:=Ze ((w.alloc (.cells #[J m0,J m1,J m2,J m3,J m4,J m5] 172)).alloc (.cells #[O 0,O 0,J 0,J 0,J 0,J 0,J 0,J 0,.bool false,.bool false,.bool false] 244));have⟨rc,g⟩:=Ze (w.heap.size+1);have⟨mb,l⟩:=Ze (w.heap.size);have ar:Zq w w1:=by rw[c];exact((H.refl _ w).alloc _).alloc _
 have el:w1.heap[rc]?=some (.cells Iy 244 (0,0)):=by
  rw[c,g];have:=heap_alloc_last (w.alloc (.cells #[J m0,J m1,J m2,J m3,J m4,J m5] 172)) (.cells #[O 0,O 0,J 0,J 0,J 0,J 0,J 0,J 0,.bool false,.bool false,.bool false] 244);rwa[show(w.alloc (.cells #[J m0,J m1,J m2,J m3,J m4,J m5] 172)).heap.size=w.heap.size+1 by simp] at this
 have gn:w1.heap[mb]?=some (.cells #[J m0,J m1,J m2,J m3,J m4,J m5] 172 (0,0)):=by
  have o:Zq (w.alloc (.cells #[J m0,J m1,J m2,J m3,J m4,J m5] 172)) w1:=by rw[c];exact(H.refl _ _).alloc _
  rw[l];exact H.keep o (heap_alloc_last w _) id
 have uC:w.heap.size<=mb:=Z;have lJ:w.heap.size<=rc:=Z;have BQ:=aB el;have h1:=h.step ar (λ_ _ h=>h.elim) (λ_ h=>h);have S:¬Up U w w1 w1.heap.size:=by
  rintro(o|o)
  ·have:=h.low _ o;have:=ar.size;omega
  omega
 have HX:Hid (eQ (Up U w w1) w1 xb s):=⟨hb,_,_,_,_,_,_,_,h1⟩;have HZ:=Y (λw3(h3:H (λk=>¬Up U w w1 k) w1 w3)=>LH (LS h3 el lJ));have yg:=Y (λs2 w3 w7(a1:eQ (Up U w w1) w3 xb s2)(a2:H (λk=>¬Up U w w1 k) w1 w3)(a3:H (λk=>k=rc) w3 w7)=>Ph (O6 xb s2) a1 ar a2 lJ BQ a3);have AZ:=Y (λw3 w7(a1:Zq w1 w3)(a2:H (λk=>k=rc) w3 w7)=>yg.j s w3 w7 (HX.j.quiet a1) (a1.f) a2);have KU:=Y (λT e=>O5 T e);have mY:Hid (∀w3,H (λk=>¬Up U w w1 k) w1 w3->w3.cell? (E mb 0)=some (J m0)/\w3.cell? (E mb 1)=some (J m1)/\w3.cell? (E mb 2)=some (J m2)/\w3.cell? (E mb 3)=some (J m3)/\w3.cell? (E mb 4)=some (J m4)/\w3.cell? (E mb 5)=some (J m5)/\mb<w3.heap.size):=λw3 h3=>by
  have C:=LS h3 gn uC;exact⟨Zl C,Zl C,Zl C,Zl C,Zl C,Zl C,aB C⟩
 have jr:=Y (V5 w1 3);have d:=Y (abq h1 n hn false t it);by_cases a:iS s n false t=0
 ·have b:Hid (sH s n t 3 ⟨m0,m1,m2,m3,m4,m5⟩=match xI s n with|some i=>yG (sA s i).bL 3 ⟨m0,m1,m2,m3,m4,m5⟩|none=>lD):=by
   show _=_;unfold sH;rw[if_neg (show¬jR 3=false from I),if_neg (λh=>h a)];rfl
  have p:Hid (rl s n t 3 ⟨m0,m1,m2,m3,m4,m5⟩=match xI s n with|some i=>⟨s.ps,oS s.ws i⟩|none=>⟨s.ps,s.ws++[⟨n,t,3,⟨m0,m1,m2,m3,m4,m5⟩⟩]⟩):=by
   show _=_;unfold rl;rw[if_neg (show¬jR 3=false from I),if_neg (λh=>h a)];rfl
  obtain⟨i0,A,Ja⟩:∃i0,pF s.ps n=some i0/\(ue s i0).ga=false:=by
   cases hi:pF s.ps n with
   |none=>unfold iS at a;rw[hi] at a;have h6:(6:Int)=0:=a;omega
   |some i0=>
    refine⟨i0,rfl,?_⟩;unfold iS at a;rw[hi] at a;dsimp only at a;by_cases o:(ue s i0).ga=false
    ·exact o
    rw[if_pos o] at a;omega
  have fF:=Ja
  have xh:tF s.ws t=none:=by
   cases ht:tF s.ws t with
   |none=>rfl
   |some j=>
    unfold iS at a;rw[A] at a;dsimp only at a;rw[if_neg (λo=>o fF),ht] at a;have h6:(16:Int)=0:=a;omega
  have rR:rX GP s n false t=.tuple #[.pointer (some ⟨GP n,0,none⟩),O 0]:=by unfold rX;rw[if_pos a]
  rw[rR] at d;clear rR a;obtain⟨cY,vM,rF,DX,DV,xr⟩:=h1.place A;have D:=h1.queue A cY
  cases hf:aF s.ws n with
  |none=>
   have V:=XX hf;rw[V] at D;have q:=Y (Yy D);have hg:xI s n=none:=by unfold xI;rw[hf]
   rw[hg] at b p;clear hg hf;obtain⟨w2,u⟩:=Ze (w1.alloc (.cells #[O t,O n,O 3,J m0,J m1,J m2,J m3,J m4,J m5] 252));obtain⟨gb,y⟩:=Ze (w1.heap.size);have F:=Za u;have gW:zE w2 gb ⟨n,t,3,⟨m0,m1,m2,m3,m4,m5⟩⟩:=by rw[u,y];exact heap_alloc_last w1 _
   have HW:Hid (Zk 188 #[M xb,M gb,.bool true] w2 λe w'=>Zr e (.agg #[O 0,O (-1),J 0,J 0,J 0,J 0,J 0,J 0,.bool true,.bool false,.bool false])/\eQ (Up U w w1) w' xb ⟨s.ps,s.ws++[⟨n,t,3,⟨m0,m1,m2,m3,m4,m5⟩⟩]⟩/\H (λk=>¬Up U w w1 k) w1 w'):=(Od (h1.quiet F) hb A hn xh it (λ_=>I) gW (by rw[y];exact S) (λx hx e=>by have:=aB (h1.wb x hx);omega) jB).mono (λ_ _ h=>⟨h.1,h.2.1,(F.f).trans h.2.2⟩);clear gW;clear F;generalize GP n=gp at d q;clear h1 V A fF xh vM rF DX DV xr D hn it hb S jB HX;clear cY;go_enter func104,ntmps104;go_upto_region 1 with fail
   rw[<-c,<-g,<-l];clear c g l;go_wp2_with fail;refine jr.j.e1 ?_;go_wp2_with fail;refine d.j.e1 ?_;go_wp2_with fail;refine q.j.e1 ?_;obtain⟨q0,q1,q2,q3,q4,q5,ql⟩:=mY.j w1 (H.refl _ _);go_wp2_with fail;rw[<-u,<-y];clear u y;go_wp2_with fail;refine HW.j.m ?_;rintro e w3 ⟨rfl,hr,f⟩;have B:=Y (⟨hr,f⟩:_/\_);obtain⟨z0,G,z2,z3,z4,z5,K,N,P,z9,R,zf,zl⟩:=HZ.j w3 f;clear hr f;go_wp2_with fail;refine bodyPost_ret (v:=lC (lD)) ?_ rfl ⟨by rw[b.j],?_⟩
   ·simp[results,results104,go_sem,lC,lD,mg,z0,G,z2,z3,z4,z5,K,N,P,z9,R]
   rw[p.j];exact yg.j _ _ _ B.j.1 B.j.2 (yF _ _ _ _ _ _ _ _ _ _ _ _ _)
  |some j=>
   obtain⟨bW,r,V,fR⟩:=XW hf;rw[V] at D;have q:=Y (Yz D);have iW:=Vr hb.nt bW;obtain⟨dd,eY,iU,BJ,hV,py⟩:=h1.waiter iW;have b2:=hV.c2;by_cases W:s.ws[j].how=4
   ·have hg:xI s n=some j:=by unfold xI;rw[hf];dsimp only;rw[iU,if_pos W]
    rw[hg] at b p;rw[W] at b2;have sg:=Y (abm h1 hb iW);dsimp only at b p;rw[iU] at b sg;have jt:Hid (∀T,Zk 187 #[O s.ws[j].bL,O 3,.agg #[J m0,J m1,J m2,J m3,J m4,J m5]] T λx w'=>x=.returned (.agg #[O 0,O s.ws[j].bL,J m0,J m1,J m2,J m3,J m4,J m5,.bool false,.bool (xP 3),.bool (decide ((3:Int)=7))])/\Zq T w'):=λT=>UJ T _ _ _ _ _ _ _ _
    generalize GP n=gp at d q;generalize GW s.ws[j].bL=gw at q sg b2;generalize s.ws[j]=x at b sg jt;clear hg hf iU dd eY BJ hV py iW V fR h1 W A fF xh vM rF DX DV xr D hn it hb S jB HX;clear cY bW;obtain⟨ya,yt,yh,⟨y0,y1,y2,y3,y4,y5⟩⟩:=x;dsimp only at sg b jt;go_enter func104,ntmps104;go_upto_region 1 with fail
    rw[<-c,<-g,<-l];clear c g l;go_wp2_with fail;refine jr.j.e1 ?_;go_wp2_with fail;refine d.j.e1 ?_;go_wp2_with fail;refine q.j.e1 ?_;go_wp2_with fail;refine sg.j.m ?_;rintro e w3 ⟨⟨x,rfl⟩,hr,f,F0⟩;have oI:=Dl (H.keep ((H.refl (λ_=>False) w3).drew) F0 id);have v0:=oI.c0;dsimp only at v0;have Gb:H (λk=>¬Up U w w1 k) w1 w3.drew:=f.trans ((H.refl _ w3).drew);obtain⟨q0,q1,q2,q3,q4,q5,ql⟩:=mY.j w3.drew Gb
    have mZ:Hid (∀z,Zq w3.drew z->EA z rc/\eQ (Up U w w1) z xb ⟨s.ps,oS s.ws j⟩/\H (λk=>¬Up U w w1 k) w1 z):=λz h5=>by
     have h6:H (λk=>¬Up U w w1 k) w1 z:=Gb.trans (h5.f);exact⟨HZ.j z h6,(hr.quiet ((H.refl (λ_=>False) w3).drew)).quiet h5,h6⟩
    clear hr f F0 oI Gb b2;go_wp2_with fail
    go_region_with (go_at_call 187;refine(jt.j _).m ?_;rintro e z ⟨rfl,X⟩;obtain⟨⟨z0,G,z2,z3,z4,z5,K,N,P,z9,R,zf,zl⟩,hR⟩:=mZ.j z X;have B:=Y hR;clear X hR)
    all_goals
     go_wp2_with fail;refine bodyPost_ret (v:=lC (yG yt 3 ⟨m0,m1,m2,m3,m4,m5⟩)) ?_ rfl ⟨by rw[b.j],?_⟩
     ·simp[results,results104,go_sem,lC,yG,xP,z0,G,z2,z3,z4,z5,K,N,P,z9,R]
     rw[p.j];exact yg.j _ _ _ B.j.1 B.j.2 (yF _ _ _ _ _ _ _ _ _ _ _ _ _)
   have hg:xI s n=none:=by unfold xI;rw[hf];dsimp only;rw[iU,if_neg W]
   have Ed:(s.ws[j].how==4)=false:=beq_eq_false_iff_ne.2 W;rw[hg] at b p;obtain⟨w2,u⟩:=Ze (w1.alloc (.cells #[O t,O n,O 3,J m0,J m1,J m2,J m3,J m4,J m5] 252));obtain⟨gb,y⟩:=Ze (w1.heap.size);have F:=Za u;have gW:zE w2 gb ⟨n,t,3,⟨m0,m1,m2,m3,m4,m5⟩⟩:=by rw[u,y];exact heap_alloc_last w1 _
   have HW:Hid (Zk 188 #[M xb,M gb,.bool true] w2 λe w'=>Zr e (.agg #[O 0,O (-1),J 0,J 0,J 0,J 0,J 0,J 0,.bool true,.bool false,.bool false])/\eQ (Up U w w1) w' xb ⟨s.ps,s.ws++[⟨n,t,3,⟨m0,m1,m2,m3,m4,m5⟩⟩]⟩/\H (λk=>¬Up U w w1 k) w1 w'):=(Od (h1.quiet F) hb A hn xh it (λ_=>I) gW (by rw[y];exact S) (λx hx e=>by have:=aB (h1.wb x hx);omega) jB).mono (λ_ _ h=>⟨h.1,h.2.1,(F.f).trans h.2.2⟩);clear gW;clear F;generalize GP n=gp at d q;generalize GW s.ws[j].bL=gw at q b2;generalize s.ws[j].how=yh at b2 W Ed;clear hg hf iU dd eY BJ hV py iW V fR h1 A fF xh vM rF DX DV xr D hn it hb S jB HX;clear cY bW;go_enter func104,ntmps104;go_upto_region 1 with fail
   rw[<-c,<-g,<-l];clear c g l;go_wp2_with fail;refine jr.j.e1 ?_;go_wp2_with fail;refine d.j.e1 ?_;go_wp2_with fail;refine q.j.e1 ?_;obtain⟨q0,q1,q2,q3,q4,q5,ql⟩:=mY.j w1 (H.refl _ _);go_wp2_with fail;rw[<-u,<-y];clear u y;go_wp2_with fail;refine HW.j.m ?_;rintro e w3 ⟨rfl,hr,f⟩;have B:=Y (⟨hr,f⟩:_/\_);obtain⟨z0,G,z2,z3,z4,z5,K,N,P,z9,R,zf,zl⟩:=HZ.j w3 f;clear hr f;go_wp2_with fail;refine bodyPost_ret (v:=lC (lD)) ?_ rfl ⟨by rw[b.j],?_⟩
   ·simp[results,results104,go_sem,lC,lD,mg,z0,G,z2,z3,z4,z5,K,N,P,z9,R]
   rw[p.j];exact yg.j _ _ _ B.j.1 B.j.2 (yF _ _ _ _ _ _ _ _ _ _ _ _ _)
 have b:Hid (sH s n t 3 ⟨m0,m1,m2,m3,m4,m5⟩=wT (iS s n false t)):=by
  show _=_;unfold sH;rw[if_neg (show¬jR 3=false from I),if_pos a]
 have p:Hid (rl s n t 3 ⟨m0,m1,m2,m3,m4,m5⟩=s):=by
  show _=_;unfold rl;rw[if_neg (show¬jR 3=false from I),if_pos a]
 have rR:rX GP s n false t=.tuple #[.pointer none,O (iS s n false t)]:=by unfold rX;rw[if_neg a]
 rw[rR] at d;generalize iS s n false t=me at d b a;have aS:(me !=0)=true:=by simpa using a
 have eH:(me==0)=false:=by simpa using a
 clear h1 rR hb hn it S HX;go_enter func104,ntmps104;go_upto_region 1 with fail
 rw[<-c,<-g,<-l];clear c g l;go_wp2_with fail;refine jr.j.e1 ?_;go_wp2_with fail;refine d.j.e1 ?_;go_wp2_with fail;refine(KU.j _ _).m ?_;rintro e w3 ⟨rfl,X⟩;have HQ:=Y X;obtain⟨z0,G,z2,z3,z4,z5,K,N,P,z9,R,zf,zl⟩:=HZ.j w3 (X.f);clear X;go_wp2_with fail;refine bodyPost_ret (v:=lC (wT me)) ?_ rfl ⟨by rw[b.j],?_⟩
 ·simp[results,results104,go_sem,lC,wT,mg,z0,G,z2,z3,z4,z5,K,N,P,z9,R]
 rw[p.j];exact AZ.j _ _ HQ.j (yF _ _ _ _ _ _ _ _ _ _ _ _ _)
theorem acM(h:eQ U w xb s)(jB:s.ws.length<1000000)(n t)(hn:af n)(it:af t):Zk 299 #[M xb,O n,O t,.bool true] w λe w'=>Zr e (lC (uH s n t true))/\eQ U w' xb (tC s n t true)/\Zn U w w':=by
 obtain⟨hb,mp,mw,DP,DW,GP,GW,Q,h⟩:=h;obtain⟨w1,c⟩:=Ze (w.alloc (.cells #[O 0,O 0,J 0,J 0,J 0,J 0,J 0,J 0,.bool false,.bool false,.bool false] 244));obtain⟨rc,l⟩:=Ze (w.heap.size);have ar:=Za c;have el:w1.heap[rc]?=some (.cells Iy 244 (0,0)):=by rw[c,l];exact heap_alloc_last w _
 have lJ:w.heap.size<=rc:=Z;have BQ:=aB el;have h1:eE (Up U w w1) w1 xb mp mw DP DW GP GW Q s:=h.step ar (λ_ _ h=>h.elim) (λ_ h=>h)
 have T:¬Up U w w1 w1.heap.size:=by
  rintro(C|C)
  ·have:=h.low _ C;have:=ar.size;omega
  omega
 have HX:Hid (eQ (Up U w w1) w1 xb s):=⟨hb,_,_,_,_,_,_,_,h1⟩
 have HZ:Hid (∀w3,H (λk=>¬Up U w w1 k) w1 w3->EA w3 rc):=λw3 h3=>LH (LS h3 el lJ)
 have yg:Hid (∀s2 w3 d,eQ (Up U w w1) w3 xb s2->H (λk=>¬Up U w w1 k) w1 w3->H (λk=>k=rc) w3 d->eQ U d xb s2/\Zn U w d):=λs2 w3 d a1 a2 a3=>Ph (O6 xb s2) a1 ar a2 lJ BQ a3
 have AZ:Hid (∀w3 d,Zq w1 w3->H (λk=>k=rc) w3 d->eQ U d xb s/\Zn U w d):=λw3 d a1 a2=>yg.j s w3 d (HX.j.quiet a1) (a1.f) a2
 have KU:Hid (∀m e,Zk 183 #[O e] m λx w'=>x=.returned (.agg #[O e,O (-1),J 0,J 0,J 0,J 0,J 0,J 0,.bool false,.bool false,.bool false])/\Zq m w'):=λm e=>O5 m e
 clear ar el lJ BQ h;have f:=Y (abq h1 n hn false t it);by_cases a:iS s n false t=0
 ·have b:Hid (uH s n t true=match yy s n with|some i=>yG (sA s i).bL (sA s i).how (sA s i).m|none=>lD):=by
   show _=_;unfold uH;rw[if_neg (λh=>h a)];rfl
  have o:Hid (tC s n t true=match yy s n with|some i=>⟨s.ps,oS s.ws i⟩|none=>⟨s.ps,s.ws++[⟨n,t,4,mg⟩]⟩):=by
   show _=_;unfold tC;rw[if_neg (λh=>h a)];rfl
  obtain⟨i0,A,Ja⟩:∃i0,pF s.ps n=some i0/\(ue s i0).ga=false:=by
   cases hi:pF s.ps n with
   |none=>unfold iS at a;rw[hi] at a;have h6:(6:Int)=0:=a;omega
   |some i0=>
    refine⟨i0,rfl,?_⟩;unfold iS at a;rw[hi] at a;dsimp only at a;by_cases C:(ue s i0).ga=false
    ·exact C
    rw[if_pos C] at a;omega
  have fF:=Ja;clear Ja
  have xh:tF s.ws t=none:=by
   cases ht:tF s.ws t with
   |none=>rfl
   |some j=>
    unfold iS at a;rw[A] at a;dsimp only at a;rw[if_neg (λC=>C fF),ht] at a;have h6:(16:Int)=0:=a;omega
  have rR:rX GP s n false t=.tuple #[.pointer (some ⟨GP n,0,none⟩),O 0]:=by unfold rX;rw[if_pos a]
  rw[rR] at f;clear rR a;obtain⟨cY,vM,rF,DX,DV,xr⟩:=h1.place A;have D:=h1.queue A cY
  cases hf:aF s.ws n with
  |none=>
   have V:=XX hf;rw[V] at D;have q:=Y (Yy D);have hg:yy s n=none:=by unfold yy;rw[hf]
   rw[hg] at b o;clear hg hf;obtain⟨w2,u⟩:=Ze (w1.alloc (.cells #[O t,O n,O 4,J 0,J 0,J 0,J 0,J 0,J 0] 252));obtain⟨gb,y⟩:=Ze (w1.heap.size);have F:=Za u;have gW:zE w2 gb ⟨n,t,4,⟨0,0,0,0,0,0⟩⟩:=by rw[u,y];exact heap_alloc_last w1 _
   have HW:Hid (Zk 188 #[M xb,M gb,.bool true] w2 λe w'=>Zr e (.agg #[O 0,O (-1),J 0,J 0,J 0,J 0,J 0,J 0,.bool true,.bool false,.bool false])/\eQ (Up U w w1) w' xb ⟨s.ps,s.ws++[⟨n,t,4,⟨0,0,0,0,0,0⟩⟩]⟩/\H (λk=>¬Up U w w1 k) w1 w'):=(Od (h1.quiet F) hb A hn xh it (λ_=>I) gW (by rw[y];exact T) (λx hx e=>by have:=aB (h1.wb x hx);omega) jB).mono (λ_ _ h=>⟨h.1,h.2.1,(F.f).trans h.2.2⟩);clear gW;clear F;generalize GP n=gp at f q;clear h1 V A fF xh vM rF DX DV xr D hn it hb T jB HX;clear cY;go_enter func299,ntmps299;go_upto_region 1 with fail
   rw[<-c,<-l];clear c l;go_wp2_with fail;refine f.j.e1 ?_;go_wp2_with fail;refine q.j.e1 ?_;go_wp2_with fail;rw[<-u,<-y];clear u y;go_wp2_with fail;refine HW.j.m ?_;rintro e w3 ⟨rfl,hr,g⟩;have B:=Y (⟨hr,g⟩:_/\_);obtain⟨z0,G,z2,z3,z4,z5,K,N,P,z9,R,zf,zl⟩:=HZ.j w3 g;clear hr g;go_wp2_with fail;refine bodyPost_ret (v:=lC (lD)) ?_ rfl ⟨by rw[b.j],?_⟩
   ·simp[results,results299,go_sem,lC,lD,mg,z0,G,z2,z3,z4,z5,K,N,P,z9,R]
   rw[o.j];exact yg.j _ _ _ B.j.1 B.j.2 (yF _ _ _ _ _ _ _ _ _ _ _ _ _)
  |some j=>
   obtain⟨bW,r,V,fR⟩:=XW hf;rw[V] at D;have q:=Y (Yz D);have iW:=Vr hb.nt bW;obtain⟨dd,eY,iU,BJ,hV,py⟩:=h1.waiter iW;have W:=hV.c2
   have aa:s.ws[j].how=2\/s.ws[j].how=3\/s.ws[j].how=4\/s.ws[j].how=7:=by
    obtain⟨p,ad,oJ,ag⟩:=hb.at' _ (List.getElem_mem bW);refine ag ?_;have:=map_inj hb.np ad xr (oJ.trans (fR.trans vM.symm));rw[this,<-rF];exact fF
   have S:=Y (V5 w1 s.ws[j].how);by_cases hh:s.ws[j].how=4
   ·have hg:yy s n=none:=by unfold yy;rw[hf];dsimp only;rw[iU,if_pos hh]
    rw[hg] at b o;rw[hh] at W S;have ah:Hid (Zk 182 #[O 4] w1 λx w'=>x=.returned (.bool false)/\w'=w1):=S.j;obtain⟨w2,u⟩:=Ze (w1.alloc (.cells #[O t,O n,O 4,J 0,J 0,J 0,J 0,J 0,J 0] 252));obtain⟨gb,y⟩:=Ze (w1.heap.size);have F:=Za u;have gW:zE w2 gb ⟨n,t,4,⟨0,0,0,0,0,0⟩⟩:=by rw[u,y];exact heap_alloc_last w1 _
    have HW:Hid (Zk 188 #[M xb,M gb,.bool true] w2 λe w'=>Zr e (.agg #[O 0,O (-1),J 0,J 0,J 0,J 0,J 0,J 0,.bool true,.bool false,.bool false])/\eQ (Up U w w1) w' xb ⟨s.ps,s.ws++[⟨n,t,4,⟨0,0,0,0,0,0⟩⟩]⟩/\H (λk=>¬Up U w w1 k) w1 w'):=(Od (h1.quiet F) hb A hn xh it (λ_=>I) gW (by rw[y];exact T) (λx hx e=>by have:=aB (h1.wb x hx);omega) jB).mono (λ_ _ h=>⟨h.1,h.2.1,(F.f).trans h.2.2⟩);clear gW;clear F;generalize GP n=gp at f q;generalize GW s.ws[j].bL=gw at q W;clear hg hf iU dd eY BJ hV py iW V fR h1 hh aa A fF xh vM rF DX DV xr D hn it hb T jB HX;clear cY S bW;go_enter func299,ntmps299;go_upto_region 1 with fail
    rw[<-c,<-l];clear c l;go_wp2_with fail;refine f.j.e1 ?_;go_wp2_with fail;refine q.j.e1 ?_;go_wp2_with fail;refine ah.j.e1 ?_;go_wp2_with fail;rw[<-u,<-y];clear u y;go_wp2_with fail;refine HW.j.m ?_;rintro e w3 ⟨rfl,hr,g⟩;have B:=Y (⟨hr,g⟩:_/\_);obtain⟨z0,G,z2,z3,z4,z5,K,N,P,z9,R,zf,zl⟩:=HZ.j w3 g;clear hr g;go_wp2_with fail;refine bodyPost_ret (v:=lC (lD)) ?_ rfl ⟨by rw[b.j],?_⟩
    ·simp[results,results299,go_sem,lC,lD,mg,z0,G,z2,z3,z4,z5,K,N,P,z9,R]
    rw[o.j];exact yg.j _ _ _ B.j.1 B.j.2 (yF _ _ _ _ _ _ _ _ _ _ _ _ _)
   have hg:yy s n=some j:=by unfold yy;rw[hf];dsimp only;rw[iU,if_neg hh]
   have F8:PO s.ws[j].how=true:=decide_eq_true Z;rw[F8] at S;rw[hg] at b o;have sg:=Y (abm h1 hb iW);dsimp only at b o;rw[iU] at b sg;have jt:Hid (∀m,Zk 187 #[O s.ws[j].bL,O s.ws[j].how,.agg #[J s.ws[j].m.ak,J s.ws[j].m.w0,J s.ws[j].m.w1,J s.ws[j].m.w2,J s.ws[j].m.w3,J s.ws[j].m.aQ]] m λx w'=>x=.returned (.agg #[O 0,O s.ws[j].bL,J s.ws[j].m.ak,J s.ws[j].m.w0,J s.ws[j].m.w1,J s.ws[j].m.w2,J s.ws[j].m.w3,J s.ws[j].m.aQ,.bool false,.bool (xP s.ws[j].how),.bool (decide (s.ws[j].how=7))])/\Zq m w'):=λm=>UJ m _ _ _ _ _ _ _ _
   generalize GP n=gp at f q;generalize GW s.ws[j].bL=gw at q sg W;generalize s.ws[j]=x at b sg jt W S;clear hg hf iU dd eY BJ hV py iW V fR h1 hh aa F8 A fF xh vM rF DX DV xr D hn it hb T jB HX;clear cY bW;obtain⟨ya,yt,yh,⟨y0,y1,y2,y3,y4,y5⟩⟩:=x;dsimp only at sg b jt W S;have Ua:Hid (uH s n t true=⟨0,yt,⟨y0,y1,y2,y3,y4,y5⟩,false,xP yh,decide (yh=7)⟩):=b.j;generalize xP yh=ab at jt Ua;generalize decide (yh=7)=fb at jt Ua;go_enter func299,ntmps299;go_upto_region 1 with fail
   rw[<-c,<-l];clear c l;go_wp2_with fail;refine f.j.e1 ?_;go_wp2_with fail;refine q.j.e1 ?_;go_wp2_with fail;refine S.j.e1 ?_;go_wp2_with fail;refine sg.j.m ?_;rintro e w3 ⟨⟨x,rfl⟩,hr,g,F0⟩;obtain⟨v0,v1,v2,v3,v4,v5,v6,v7,v8,vf⟩:=Dl (H.keep ((H.refl (λ_=>False) w3).drew) F0 id);dsimp only at v0 v2 v3 v4 v5 v6 v7 v8;have Gb:H (λk=>¬Up U w w1 k) w1 w3.drew:=g.trans ((H.refl _ w3).drew)
   have mZ:Hid (∀z,Zq w3.drew z->EA z rc/\eQ (Up U w w1) z xb ⟨s.ps,oS s.ws j⟩/\H (λk=>¬Up U w w1 k) w1 z):=λz h5=>by
    have h6:H (λk=>¬Up U w w1 k) w1 z:=Gb.trans (h5.f);exact⟨HZ.j z h6,(hr.quiet ((H.refl (λ_=>False) w3).drew)).quiet h5,h6⟩
   clear hr g F0 v1 vf Gb W;go_wp2_with fail
   go_region_with (go_at_call 187;refine(jt.j _).m ?_;rintro e z ⟨rfl,X⟩;obtain⟨⟨z0,G,z2,z3,z4,z5,K,N,P,z9,R,zf,zl⟩,hR⟩:=mZ.j z X;have B:=Y hR;clear X hR)
   all_goals
    go_wp2_with fail;refine bodyPost_ret (v:=lC (⟨0,yt,⟨y0,y1,y2,y3,y4,y5⟩,false,ab,fb⟩)) ?_ rfl ⟨by rw[Ua.j],?_⟩
    ·simp[results,results299,go_sem,lC,z0,G,z2,z3,z4,z5,K,N,P,z9,R]
    rw[o.j];exact yg.j _ _ _ B.j.1 B.j.2 (yF _ _ _ _ _ _ _ _ _ _ _ _ _)
 have b:Hid (uH s n t true=wT (iS s n false t)):=if_pos a;have o:Hid (tC s n t true=s):=if_pos a;have rR:rX GP s n false t=.tuple #[.pointer none,O (iS s n false t)]:=by unfold rX;rw[if_neg a]
 rw[rR] at f;generalize iS s n false t=me at f b a;have aS:(me !=0)=true:=by simpa using a
 have eH:(me==0)=false:=by simpa using a
 clear h1 rR hb hn it T HX;go_enter func299,ntmps299;go_upto_region 1 with fail
 rw[<-c,<-l];clear c l;go_wp2_with fail;refine f.j.e1 ?_;go_wp2_with fail;refine(KU.j _ _).m ?_;rintro e w3 ⟨rfl,X⟩;have HQ:=Y X;obtain⟨z0,G,z2,z3,z4,z5,K,N,P,z9,R,zf,zl⟩:=HZ.j w3 (X.f);clear X;go_wp2_with fail;refine bodyPost_ret (v:=lC (wT me)) ?_ rfl ⟨by rw[b.j],?_⟩
 ·simp[results,results299,go_sem,lC,wT,mg,z0,G,z2,z3,z4,z5,K,N,P,z9,R]
 rw[o.j];exact AZ.j _ _ HQ.j (yF _ _ _ _ _ _ _ _ _ _ _ _ _)
end
end Go.Proofs.YtdjlkahbpdoemaaGreatDoor

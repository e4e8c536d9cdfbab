import Derived.Test.YtphkconoooeidaaGreatDoorCp7
import Derived.Test.YtphkconoooeidaaGreatDoorCp8
set_option maxRecDepth 100000
set_option maxHeartbeats 8000000
set_option linter.unusedVariables false
set_option linter.unusedSimpArgs false
open Go Go.Vx Go.Proofs.Tryz Go.ChangeShapes Go.WideShapes Go.ChangeAt Go.RowKit
namespace Go.Proofs.YtphkconoooeidaaGreatDoor
section
variable {U S:Nat->Prop} {w w2:World} {pb:Nat} {P:Int} {vo vr:Value} {os rs:Lp}
def agC (os rs:Lp) (o:Int×Int):Int:=if o.1=1 then (match jP rs o.2 with|none=>6|some _=>if Dg os rs o.2=true then 16 else 0) else if os.contains o=true then 0 else 6
def agA (os:Lp) (o:Int×Int):Lp:=if o.1=1 then os else os.filter (λx=>decide (x≠o))
def agB (os rs:Lp) (o:Int×Int):Lp:=if o.1=1 then (match jP rs o.2 with|none=>rs|some i=>if Dg os rs o.2=true then rs else rs.take i++rs.drop (i+1)) else rs
end
section
variable {U S:Nat->Prop} {w w2:World} {pb:Nat} {P:Int} {vo vr:Value} {os rs:Lp}
structure mM (T:TypeId) (w1:World) (v:Value) (ls:Lp) (wr:World):Prop where
 on:Zq w1 wr
 own:ai aJ wr w1.heap.size T v ls
theorem mM.quiet {T:TypeId} {w1:World} {v:Value} {ls:Lp} {wr wx:World} (h:mM T w1 v ls wr) (ho:Zq wr wx):mM T w1 v ls wx:=⟨h.on.trans ho,h.own.kept ho (λ_ _ h=>h)⟩
theorem mM.push {T:TypeId} {w1:World} {v v':Value} {ls Dd:Lp} {wr wx:World} (h:mM T w1 v ls wr) (ho:ai aJ wx w1.heap.size T v' Dd) (ay:ae (λk=>v.ownBlock=some k) wr wx):mM T w1 v' Dd wx:=
 ⟨h.on.beyond ay (λk hk=>(cH h.own hk).1),ho⟩
def agH (os:Lp) (o:Int×Int):Lp:=os.filter (λx=>decide (x≠o))
end
section
variable {U S:Nat->Prop} {w w2 wr:World} {pb:Nat} {P:Int} {vo vr v:Value} {os rs:Lp} {ns:List Int}
def Wp (m n:Nat):Nat:=m+(n - m % n) % n
def aeA (b n x:Int) (j:Nat):List Int:=(List.range j).map (λt:Nat=>b+(t:Int)*n+x)
def L0 (os rs:Lp) (num:Int) (i n:Nat):Nat:=Wp (if Dg os rs num=true then (rs.getD i (0,0)).2.toNat else 0) n
def Hm (os rs:Lp) (num kind order many:Int):Int:=
 if kind<1\/8<kind then 12 else if order<0\/8<order\/(kind≠1/\order≠0)\/many<1\/64<many then 1
 else match jP rs num with
 |none=>6
 |some i=>if (kind=1/\aU (1,num)<=((2^order.toNat:Nat):Int))\/aU (1,num)<(L0 os rs num i (2^order.toNat):Int)+many*((2^order.toNat:Nat):Int) then 14 else 0
def LZ (os rs:Lp) (num kind order:Int) (i j:Nat):List Int:=aeA (aQ (1,num)+(L0 os rs num i (2^order.toNat):Int)) ((2^order.toNat:Nat):Int) (if kind=1 then 256*order else 0) j
def aez (os rs:Lp) (num kind order many:Int):Lp:=if kind=1 then os else os++(LZ os rs num kind order ((jP rs num).getD 0) many.toNat).map (λy=>(kind,y))
def aeB (os rs:Lp) (num kind order many:Int):Lp:=
 let i:=(jP rs num).getD 0
 (if kind=1 then rs++(LZ os rs num kind order i many.toNat).map (λy=>(y,0)) else rs).set i (num,(L0 os rs num i (2^order.toNat):Int)+many*((2^order.toNat:Nat):Int))
def SR (os rs:Lp) (num kind order many:Int):List Int:=if Hm os rs num kind order many=0 then LZ os rs num kind order ((jP rs num).getD 0) many.toNat else []
def SS (os rs:Lp) (num kind order many:Int):Lp:=if Hm os rs num kind order many=0 then aez os rs num kind order many else os
def SU (os rs:Lp) (num kind order many:Int):Lp:=if Hm os rs num kind order many=0 then aeB os rs num kind order many else rs
structure GvS (U:Nat->Prop) (w:World) (pb:Nat) (P:Int) (os rs:Lp) (v:Value) (ns:List Int) (wr:World):Prop where
 p:lX U wr pb P os rs
 l:ai cO wr w.heap.size 3 v ns
 on:Zn U w wr
 low:∀k,U k->k<w.heap.size
end
section
variable {U S:Nat->Prop} {w w2 wr:World} {pb:Nat} {P:Int} {vo vr v:Value} {os rs:Lp} {ns:List Int}
def GvK (U:Nat->Prop) (w:World) (pb:Nat) (P:Int) (os rs:Lp) (num kind order many:Int):Prop:=∀wv,Zq w wv->ai cO wv w.heap.size 3 (.slice none 0 0) (SR os rs num kind order many)/\lX U wv pb P (SS os rs num kind order many) (SU os rs num kind order many)/\Zn U w wv
end
section
variable {U S:Nat->Prop} {w w2 wr:World} {pb:Nat} {P:Int} {vo vr v:Value} {os rs:Lp} {ns:List Int}
end
section
variable {U S:Nat->Prop} {w w2 wr:World} {pb:Nat} {P:Int} {vo vr v:Value} {os rs:Lp} {ns:List Int}
end
section
variable {U S:Nat->Prop} {w w2 wr:World} {pb:Nat} {P:Int} {vo vr v:Value} {os rs:Lp} {ns:List Int}
end
section
variable {U S:Nat->Prop} {w w2 wr:World} {pb:Nat} {P:Int} {vo vr v:Value} {os rs:Lp} {ns:List Int}
end
section
variable {U S:Nat->Prop} {w w2 wr:World} {pb:Nat} {P:Int} {vo vr v:Value} {os rs:Lp} {ns:List Int}
theorem ag1 (hc:lX U w pb P os rs) (hp:Il os rs) (hP:1<=P/\P<=256) (k n:Int) (hn:aj n) (uY:os.length<1000000) (mB:rs.length<1000000):Zk 57 #[Zp pb,.agg #[Zi k,Zi n]] w λe w'=>Zr e (Zi (aV P os rs (k,n)))/\lX U w' pb P (fX P os rs (k,n)) (ij P os rs (k,n))/\Zn U w w':=by
 by_cases hk:k=1
 ·subst hk;exact add_one hc hp hP 1 n rfl hn uY mB
 ·exact ag2 hc hp hP k n hk hn uY mB
end
section
variable {U S:Nat->Prop} {w w2 wr:World} {pb:Nat} {P:Int} {vo vr v:Value} {os rs:Lp} {ns:List Int}
def mm (x y:Int×Int):Prop:=x.1<y.1\/(x.1=y.1/\x.2<y.2)
def kY (x y:Int×Int):Prop:=¬mm y x
theorem acf {x y z:Int×Int} (h1:kY x y) (h2:kY y z):kY x z:=by unfold kY mm at*;omega
theorem acg {x y:Int×Int} (h1:kY x y) (h2:kY y x):x=y:=by
 unfold kY mm at*;exact Prod.ext Zo Zo
theorem ac0 {x y:Int×Int} (h:mm x y):kY x y:=by unfold kY mm at*;omega
def vn (xs:Lp) (i k:Nat):Prop:=∀a b,a<b->b<=i->b≠k->kY (xs.getD a (0,0)) (xs.getD b (0,0))
theorem Hp (xs:Lp) (k a:Nat) (y:Int×Int) (hk:k<xs.length):(xs.set k y).getD a (0,0)=if a=k then y else xs.getD a (0,0):=by
 rw[List.getD_eq_getElem?_getD,List.getD_eq_getElem?_getD,List.getElem?_set];by_cases h:a=k
 ·rw[if_pos h,if_pos h.symm,if_pos hk];rfl
 ·rw[if_neg h,if_neg (λe=>h e.symm)]
theorem vn.swap {xs:Lp} {i p:Nat} (h:vn xs i (p+1)) (hp:p+1<=i) (hl:p+1<xs.length) (ah:mm (xs.getD (p+1) (0,0)) (xs.getD p (0,0))):
  vn ((xs.set (p+1) (xs.getD p (0,0))).set p (xs.getD (p+1) (0,0))) i p:=by
 intro a b ch hb cu;have u4:p<(xs.set (p+1) (xs.getD p (0,0))).length:=by rw[List.length_set];omega
 rw[Hp _ _ _ _ u4,Hp _ _ _ _ u4,Hp _ _ _ _ hl,Hp _ _ _ _ hl,if_neg cu];by_cases cY:b=p+1
 ·rw[if_pos cY];by_cases ha:a=p
  ·rw[if_pos ha];exact ac0 ah
  ·rw[if_neg ha,if_neg Zo];exact h a p Zo Zo Zo
 ·rw[if_neg cY];by_cases ha:a=p
  ·rw[if_pos ha];exact h (p+1) b Zo hb cY
  ·rw[if_neg ha];by_cases yJ:a=p+1
   ·rw[if_pos yJ];exact h p b Zo hb cY
   ·rw[if_neg yJ];exact h a b ch hb cY
theorem vn.stop {xs:Lp} {i k:Nat} (h:vn xs i k) (hs:k=0\/∃p,k=p+1/\¬mm (xs.getD (p+1) (0,0)) (xs.getD p (0,0))):vn xs (i+1) (i+1):=by
 intro a b ch hb cu;by_cases kJ:b=k
 ·rcases hs with hs|⟨p,hp,hs⟩
  ·omega
  ·subst kJ;subst hp;have h1:kY (xs.getD p (0,0)) (xs.getD (p+1) (0,0)):=hs;by_cases ha:a=p
   ·rw[ha];exact h1
   ·exact acf (h a p Zo Zo Zo) h1
 ·exact h a b ch Zo kJ
theorem vn.whole {xs:Lp} {i:Nat} (h:vn xs i i) (hi:xs.length<=i):xs.Pairwise kY:=by
 rw[List.pairwise_iff_getElem];intro a b ha hb ch;have:=h a b ch Zo Zo;rw[wU ha,wU hb] at this;exact this
theorem Pq {xs:Lp} {p:Nat} (hl:p+1<xs.length):((xs.set (p+1) (xs.getD p (0,0))).set p (xs.getD (p+1) (0,0))).Perm xs:=by
 rw[wU hl,wU (show p<xs.length from Zo)];exact List.set_set_perm hl Zo
def fE (os rs:Lp):Lp:=os++rs.map (λr=>(1,r.1))
def uv (w:World) (v:Value) (FG:Lp) (i k:Nat) (wr:World):Prop:=∃xs,mM 85 w v xs wr/\xs.Perm FG/\vn xs i k
theorem uv.quiet {FG:Lp} {i k:Nat} (h:uv w v FG i k wr) (ho:Zq wr w2):uv w v FG i k w2:=by
 obtain⟨xs,h1,h2⟩:=h;exact⟨xs,h1.quiet ho,h2⟩
theorem mM.swap {T:TypeId} {xs:Lp} {g m c p:Nat} (h:mM T w (Zs g m c) xs wr) (hp:p+1<xs.length):
  mM T w (Zs g m c) ((xs.set (p+1) (xs.getD p (0,0))).set p (xs.getD (p+1) (0,0)))
   ((((wr.setCell ⟨g,(p+1)*2,none⟩ (Zi (xs.getD p (0,0)).1)).setCell ⟨g,(p+1)*2+1,none⟩ (Zi (xs.getD p (0,0)).2)).setCell ⟨g,p*2,none⟩ (Zi (xs.getD (p+1) (0,0)).1)).setCell ⟨g,p*2+1,none⟩ (Zi (xs.getD (p+1) (0,0)).2)):=by
 have hm:m=xs.length:=by
  obtain⟨p',c',hv,_⟩:=h.own.form;injection hv
 obtain⟨a1,a2⟩:=CZ h.own hm (p+1) hp (xs.getD p (0,0));obtain⟨b1,b2⟩:=CZ a1 (by rw[List.length_set];exact hm) p (by rw[List.length_set];omega) (xs.getD (p+1) (0,0));have hg:w.heap.size<=g:=(cH h.own (k:=g) rfl).1;exact⟨h.on.beyond (a2.trans b2) (λk hk=>by subst hk;exact hg),b1⟩
end
end Go.Proofs.YtphkconoooeidaaGreatDoor

import Derived.Test.YtphkconoooeidaaGreatDoorCp9
import Derived.Lib.SlKeysI
import Derived.Maps.OwnSet
import Derived.Maps.RangeWalk
set_option maxRecDepth 100000
set_option maxHeartbeats 8000000
set_option linter.unusedVariables false
set_option linter.unusedSimpArgs false
open Go Go.Vx Go.Proofs.Tryz Go.ChangeShapes Go.WideShapes Go.ChangeAt Go.RowKit
namespace Go.Proofs.YtphkconoooeidaaGreatDoor
section
def bA (n:Int):Nat:=(n % 256).toNat
def bN (n:Int):Nat:=2^(n/256).toNat
theorem TL (n:Int):0<bN n:=Nat.pow_pos Zd
theorem CY (n:Int):aQ (1,n)=(bA n:Int):=by unfold aQ bA;rw[if_pos rfl];simp only;omega
theorem CW (n:Int):aU (1,n)=(bN n:Int):=if_pos rfl
theorem vM {o:Int×Int} (h:o.1≠1):aQ o=o.2:=if_neg h
theorem zL {o:Int×Int} (h:o.1≠1):aU o=1:=if_neg h
def tS (m n:Int):Prop:=bA m<bA n+bN n/\bA n<bA m+bN m
theorem abt (m n:Int):dD (1,m) (1,n)=true↔tS m n:=by
 unfold dD mi tS;rw[CY,CY,CW,CW,decide_eq_true_iff];omega
theorem abw (m:Int) {o:Int×Int} (h:o.1≠1):dD (1,m) o=true↔(bA m:Int)<=o.2/\o.2<(bA m:Int)+(bN m:Int):=by
 unfold dD mi;rw[CY,CW,vM h,zL h,decide_eq_true_iff];omega
theorem abv {x o:Int×Int} (hx:x.1≠1) (h:o.1≠1):dD x o=true↔x.2=o.2:=by
 unfold dD mi;rw[vM hx,zL hx,vM h,zL h,decide_eq_true_iff];omega
theorem abu {x:Int×Int} (hx:x.1≠1) (m:Int):dD x (1,m)=true↔(bA m:Int)<=x.2/\x.2<(bA m:Int)+(bN m:Int):=by
 unfold dD mi;rw[CY,CW,vM hx,zL hx,decide_eq_true_iff];omega
theorem tS.symm {m n:Int} (h:tS m n):tS n m:=⟨h.2,h.1⟩
theorem tS.refl (n:Int):tS n n:=by
 have:=TL n;unfold tS;omega
structure fk (P:Int) (os rs:Lp):Prop where
 p:1<=P/\P<=256
 ok:∀o∈os,2<=o.1/\o.1<=8/\0<=o.2/\o.2<P
 rk:∀r∈rs,fK r.1/\bA r.1 % bN r.1=0/\(bA r.1:Int)+(bN r.1:Int)<=P/\0<=r.2/\r.2<=(bN r.1:Int)
 on:(os.map (·.2)).Nodup
 rn:(rs.map (·.1)).Nodup
 bo:∀r∈rs,∀o∈os,(bA r.1:Int)<=o.2->o.2<(bA r.1:Int)+(bN r.1:Int)->o.2<(bA r.1:Int)+r.2
 br:∀r∈rs,∀s∈rs,tS r.1 s.1->bN s.1<bN r.1->(bA s.1:Int)+(bN s.1:Int)<=(bA r.1:Int)+r.2
variable {P:Int} {os rs:Lp}
theorem fk.nil (hP:1<=P/\P<=256):fk P [] []:=⟨hP,(λ_ h=>by cases h),(λ_ h=>by cases h),List.nodup_nil,List.nodup_nil,(λ_ h=>by cases h),(λ_ h=>by cases h)⟩
theorem fk.pg (h:fk P os rs):Il os rs:=⟨λo ho=>by have:=h.ok o ho;have:=h.p;omega,λr hr=>(h.rk r hr).1⟩
theorem fk.lo (h:fk P os rs):os.length<=256:=by
 have h1:=vQ (os.map (·.2)) ((List.range 256).map (λk:Nat=>(k:Int))) h.on (λx hx=>by
  obtain⟨o,ho,rfl⟩:=List.mem_map.1 hx;have:=h.ok o ho;have:=h.p
  exact List.mem_map.2 ⟨o.2.toNat,List.mem_range.2 Zo,Zo⟩)
 simpa using h1
theorem fk.lr (h:fk P os rs):rs.length<=2304:=by
 have h1:=vQ (rs.map (·.1)) ((List.range 2304).map (λk:Nat=>(k:Int))) h.rn (λx hx=>by
  obtain⟨r,hr,rfl⟩:=List.mem_map.1 hx;have:=(h.rk r hr).1;unfold fK at this
  exact List.mem_map.2 ⟨r.1.toNat,List.mem_range.2 Zo,Zo⟩)
 simpa using h1
theorem fk.add (h:fk P os rs) (o:Int×Int):fk P (fX P os rs o) (ij P os rs o):=by
 by_cases he:aV P os rs o=0
 ·unfold aV at he;by_cases e1:o.1<1\/8<o.1
  ·rw[if_pos e1] at he;cases he
  rw[if_neg e1] at he;by_cases e2:o.2<0\/(o.1=1/\2304<=o.2)
  ·rw[if_pos e2] at he;cases he
  rw[if_neg e2] at he;by_cases e3:aQ o % aU o≠0\/P - aU o<aQ o
  ·rw[if_pos e3] at he;cases he
  rw[if_neg e3] at he;by_cases e4:(os.any (dD o) || rs.any (λr=>dD o (1,r.1)))=true
  ·rw[if_pos e4] at he;cases he
  have e5:(os.any (dD o) || rs.any (λr=>dD o (1,r.1)))=false:=by simpa using e4
  rw[Bool.or_eq_false_iff,List.any_eq_false,List.any_eq_false] at e5;obtain⟨fo,fr⟩:=e5;have BX:aV P os rs o=0:=by unfold aV;rw[if_neg e1,if_neg e2,if_neg e3,if_neg e4]
  have hp:=h.p;by_cases hk:o.1=1
  ·have e6:fX P os rs o=os:=if_neg (λe=>e.2 hk);have e7:ij P os rs o=rs++[(o.2,0)]:=if_pos ⟨BX,hk⟩;rw[e6,e7];obtain⟨k,n⟩:=o;simp only at hk;subst hk;rw[CY,CW] at e3
   have hrk:fK n:=by
    have a1:¬n<0:=λhc=>e2 (Or.inl hc)
    have a2:¬2304<=n:=λhc=>e2 (Or.inr ⟨rfl,hc⟩)
    unfold fK;omega
   have g1:bA n % bN n=0:=by
    have:((bA n % bN n:Nat):Int)=0:=by rw[Int.natCast_emod];exact Classical.byContradiction (λhc=>e3 (Or.inl hc))
    omega
   have g2:(bA n:Int)+(bN n:Int)<=P:=by have:=λhc=>e3 (Or.inr hc);omega
   have no:∀o∈os,¬((bA n:Int)<=o.2/\o.2<(bA n:Int)+(bN n:Int)):=λo ho hc=>fo o ho ((abw n (by have:=h.ok o ho;omega)).2 hc)
   have nr:∀r∈rs,¬tS n r.1:=λr hr hc=>fr r hr ((abt n r.1).2 hc)
   refine⟨hp,h.ok,λr hr=>?_,h.on,?_,λr hr o ho a b=>?_,λr hr s hs a b=>?_⟩
   ·rcases List.mem_append.1 hr with hr|hr
    ·exact h.rk r hr
    ·rw[List.mem_singleton] at hr;subst hr;have:=TL n;exact⟨hrk,g1,g2,by simp,by simp⟩
   ·rw[List.map_append,List.nodup_append];refine⟨h.rn,by simp,λa ha b hb=>?_⟩;simp only[List.map_cons,List.map_nil,List.mem_singleton] at hb;obtain⟨r,hr,rfl⟩:=List.mem_map.1 ha;intro hc;rw[hb] at hc;exact nr r hr (by rw[hc];exact tS.refl n)
   ·rcases List.mem_append.1 hr with hr|hr
    ·exact h.bo r hr o ho a b
    ·rw[List.mem_singleton] at hr;subst hr;exact absurd ⟨a,b⟩ (no o ho)
   ·rcases List.mem_append.1 hr with hr|hr
    ·rcases List.mem_append.1 hs with hs|hs
     ·exact h.br r hr s hs a b
     ·rw[List.mem_singleton] at hs;subst hs;exact absurd a.symm (nr r hr)
    ·rw[List.mem_singleton] at hr;subst hr;rcases List.mem_append.1 hs with hs|hs
     ·exact absurd a (nr s hs)
     ·rw[List.mem_singleton] at hs;subst hs;exact absurd b (Nat.lt_irrefl _)
  ·have e6:fX P os rs o=os++[o]:=if_pos ⟨BX,hk⟩;have e7:ij P os rs o=rs:=if_neg (λe=>hk e.2);rw[e6,e7];rw[vM hk,zL hk] at e3;refine⟨hp,λx hx=>?_,h.rk,?_,h.rn,λr hr x hx a b=>?_,h.br⟩
   ·rcases List.mem_append.1 hx with hx|hx
    ·exact h.ok x hx
    ·rw[List.mem_singleton] at hx;subst hx;have:=λhc=>e3 (Or.inr hc)
     omega
   ·rw[List.map_append,List.nodup_append];refine⟨h.on,by simp,λa ha b hb=>?_⟩;simp only[List.map_cons,List.map_nil,List.mem_singleton] at hb;obtain⟨x,hx,rfl⟩:=List.mem_map.1 ha;intro hc;exact fo x hx ((abv hk (by have:=h.ok x hx;omega)).2 (by rw[hc,hb]))
   ·rcases List.mem_append.1 hx with hx|hx
    ·exact h.bo r hr x hx a b
    ·rw[List.mem_singleton] at hx;subst hx;exact absurd ((abu hk r.1).2 ⟨a,b⟩) (fr r hr)
 ·rw[(yX o he).1,(yX o he).2];exact h
end
section
variable {P:Int} {os rs:Lp}
end
section
def RI (v:Value):Option (DataW Value×List MemPlace):=match v with|.int .i64 n=>if (Lit.int .i64 n).wf=true then some (.lit (.int .i64 n),[]) else none|_=>none
theorem PW {k:Int} (h:aj k):(Lit.int .i64 k).wf=true:=by
 unfold aj at h;simp[Lit.wf,IntKind.min,IntKind.max,IntKind.bits,IntKind.signed]<;>omega
theorem CK {k:Int} (h:(Lit.int .i64 k).wf=true):aj k:=by
 unfold aj;simp[Lit.wf,IntKind.min,IntKind.max,IntKind.bits,IntKind.signed] at h<;>omega
theorem xZ {k:Int} (h:aj k):keyOf prog 3 (.int .i64 k)=some (.int .i64 k):=Maps.keyOf_int_mk underlying3 (PW h)
theorem oO:Maps.Keyed prog 3:=Maps.int_keyed underlying3
theorem abn (w:World):(zeroValue 3).run prog w=.ok (.int .i64 0) w:=Zx
theorem PX {k:Int} (h:aj k):RI (.int .i64 k)=some (.lit (.int .i64 k),[]):=if_pos (PW h)
theorem OO {v:Value} {y:DataW Value×List MemPlace} (h:RI v=some y):∃a,v=.int .i64 a/\y=(.lit (.int .i64 a),[])/\aj a:=by
 unfold RI at h
 split at h
 ·rename_i n;by_cases hw:(Lit.int .i64 n).wf=true
  ·rw[if_pos hw] at h;injection h with h
   exact⟨n,rfl,h.symm,CK hw⟩
  ·rw[if_neg hw] at h;cases h
 ·cases h
variable {w w2:World} {mb r n cM:Nat} {D:DataW Value} {left:Lit->Bool} {S:Nat->Prop}
theorem JV (h:w.ownsMap prog 3 RI mb n D) (ho:ae S w w2) (hb:¬S mb):w2.ownsMap prog 3 RI mb n D:=by
 have fV:=h.lt;obtain⟨e,clock,cw,F,hs,hD⟩:=h;exact⟨e,clock,(ho.block mb fV hb).trans cw,F,hs,hD⟩
theorem PY (h:w.ranges prog 3 RI mb r n D left cM) (ho:ae S w w2) (hb:¬S mb) (hr:¬S r):w2.ranges prog 3 RI mb r n D left cM:=by
 have h1:=h.owns.lt;have h2:=h.lt;obtain⟨l,clock,since,seen,c0,cw,F,hs,hD,rG,rest⟩:=h;exact⟨l,clock,since,seen,c0,(ho.block mb h1 hb).trans cw,F,hs,hD,(ho.block r h2 hr).trans rG,rest⟩
theorem BE {k:Nat} {c:Array Value} {t:TypeId} {fr:Nat×Nat} (h:w.ranges prog 3 RI mb r n D left cM) (hc:w.heap[k]?=some (.cells c t fr)):r≠k:=by
 obtain⟨l,clock,since,seen,c0,cw,F,hs,hD,rG,rest⟩:=h;rintro rfl;rw[rG] at hc;cases hc
theorem JW {j:Nat} {c:Array Value} {t:TypeId} {fr:Nat×Nat} (h:w.heap[j]?=some (.cells c t fr)) (h2:w.ownsMap prog 3 RI mb n D):j≠mb:=by
 obtain⟨es,clock,hb,_⟩:=h2;rintro rfl;rw[h] at hb;cases hb
theorem Gk {r:Nat} (h:w.grownBy w2 (some r)):ae (λj=>j=r) w w2:=⟨h.os,h.tape,h.output,h.size,λk hk hn=>h.block k hk (λe=>hn (by injection e))⟩
theorem Gi (h:w.grownBy w2 none):Zq w w2:=⟨h.os,h.tape,h.output,h.size,λk hk _=>h.block k hk (by simp)⟩
theorem abp (hm:w.ownsMap prog 3 RI mb n D):w.ownsMap prog 3 RI mb (Maps.size D) D:=by
 obtain⟨l,clock,hb,F,hs,rfl⟩:=hm;exact⟨l,clock,hb,F,by simp[Maps.size,length_sorted],rfl⟩
theorem abo {ks:List Int} (hm:w.ownsMap prog 3 RI mb n D) (hs:∀k,aj k->Maps.has D (.int .i64 k)=true->k∈ks) (jD:∀k∈ks,Maps.has D (.int .i64 k)=true) (gZ:ks.Nodup):ks.Perm (intKeys D)/\Maps.size D=ks.length:=by
 obtain⟨l,hD,DB,_⟩:=hm.entries oO;obtain⟨l2,yO,oX⟩:=hm.keysOf;obtain rfl:l=l2:=by rw[hD] at yO;simpa using yO
 have hk:∀p∈l,∃x,p.1=.int .i64 x/\aj x:=λp hp=>by
  obtain⟨v,hv⟩:=oX p hp;obtain⟨x,_,hx,hw⟩:=Maps.keyOf_i64 underlying3 hv;exact⟨x,hx,CK hw⟩
 have hp:ks.Perm (intKeys D):=by
  rw[hD] at hs jD|-;refine perm_intKeys DB (λp hp=>?_) gZ (λx=>?_)
  ·obtain⟨x,hx,_⟩:=hk p hp;exact⟨x,hx⟩
  ·constructor
   ·intro hx;exact jD x hx
   ·intro hx;have oQ:=hx;rw[Maps.has_eq,List.any_eq_true] at oQ;obtain⟨p,hp,yw⟩:=oQ;obtain⟨y,hy,yj⟩:=hk p hp;rw[hy] at yw;have Ac:y=x:=by simpa[Lit.sameKey] using yw
    subst Ac;exact hs y yj hx
 refine⟨hp,?_⟩;have h1:=hp.length_eq;rw[hD] at h1|-;rw[Maps.size_eq];simp only[intKeys,List.length_map] at h1;exact h1.symm
def uC (left:Lit->Bool) (x:Int):Lit->Bool:=λz=>left z&& !z.sameKey (.int .i64 x)
theorem I9 (left:Lit->Bool) (x y:Int):uC left x (.int .i64 y)=(left (.int .i64 y)&& !decide (y=x)):=by
 unfold uC;simp[Lit.sameKey]
end
end Go.Proofs.YtphkconoooeidaaGreatDoor
namespace Go.Vx
def qu:Lay Nat:=⟨λg=>[Zp g],1,λ_=>rfl,λa u hu=>by simp only[List.mem_cons,List.not_mem_nil,or_false] at hu;subst hu;rfl,Zd⟩
end Go.Vx
namespace Go.Proofs.YtphkconoooeidaaGreatDoor
section
variable {U V S:Nat->Prop} {w w2:World} {mb n:Nat} {D:DataW Value} {v:Value} {gs:List Nat}
def RP (v:Value):Option (DataW Value×List MemPlace):=match v with|.pointer p=>some (.held (.pointer p),[])|_=>none
theorem Jl {v:Value} {y:DataW Value×List MemPlace} (h:RP v=some y):∃p,v=.pointer p/\y=(.held (.pointer p),[]):=by
 unfold RP at h
 split at h
 ·injection h with h;exact⟨_,rfl,h.symm⟩
 ·cases h
theorem zU {n:Nat} (h:w.ownsMap prog 3 RP mb n D) (ho:ae S w w2) (hb:¬S mb):w2.ownsMap prog 3 RP mb n D:=by
 have fV:=h.lt;obtain⟨e,clock,cw,F,hs,hD⟩:=h;exact⟨e,clock,(ho.block mb fV hb).trans cw,F,hs,hD⟩
theorem xV {j n:Nat} {c:Array Value} {t:TypeId} {fr:Nat×Nat} (h:w.heap[j]?=some (.cells c t fr)) (h2:w.ownsMap prog 3 RP mb n D):j≠mb:=by
 obtain⟨es,clock,hb,_⟩:=h2;rintro rfl;rw[h] at hb;cases hb
theorem PR (hm:w.ownsMap prog 3 RP mb n D):w.ownsMap prog 3 RP mb (Maps.size D) D:=by
 obtain⟨l,clock,hb,F,hs,rfl⟩:=hm;exact⟨l,clock,hb,F,by simp[Maps.size,length_sorted],rfl⟩
theorem JU {ks:List Int} (hm:w.ownsMap prog 3 RP mb n D) (hs:∀k,aj k->Maps.has D (.int .i64 k)=true->k∈ks) (jD:∀k∈ks,Maps.has D (.int .i64 k)=true) (gZ:ks.Nodup):ks.Perm (intKeys D)/\Maps.size D=ks.length:=by
 obtain⟨l,hD,DB,_⟩:=hm.entries oO;obtain⟨l2,yO,oX⟩:=hm.keysOf;obtain rfl:l=l2:=by rw[hD] at yO;simpa using yO
 have hk:∀p∈l,∃x,p.1=.int .i64 x/\aj x:=λp hp=>by
  obtain⟨v,hv⟩:=oX p hp;obtain⟨x,_,hx,hw⟩:=Maps.keyOf_i64 underlying3 hv;exact⟨x,hx,CK hw⟩
 have hp:ks.Perm (intKeys D):=by
  rw[hD] at hs jD|-;refine perm_intKeys DB (λp hp=>?_) gZ (λx=>?_)
  ·obtain⟨x,hx,_⟩:=hk p hp;exact⟨x,hx⟩
  ·constructor
   ·intro hx;exact jD x hx
   ·intro hx;have oQ:=hx;rw[Maps.has_eq,List.any_eq_true] at oQ;obtain⟨p,hp,yw⟩:=oQ;obtain⟨y,hy,yj⟩:=hk p hp;rw[hy] at yw;have Ac:y=x:=by simpa[Lit.sameKey] using yw
    subst Ac;exact hs y yj hx
 refine⟨hp,?_⟩;have h1:=hp.length_eq;rw[hD] at h1|-;rw[Maps.size_eq];simp only[intKeys,List.length_map] at h1;exact h1.symm
theorem PT (h:w.grownBy w2 (some mb)):ae (λj=>j=mb) w w2:=⟨h.os,h.tape,h.output,h.size,λk hk hn=>h.block k hk (λe=>hn (by injection e))⟩
theorem Gu {k n:Int} (h:k≠n):(Lit.int .i64 k)≠(Lit.int .i64 n):=λe=>h (by injection e)
theorem Gj {n:Int} (h:aj n):WideAt.IsKeyLit (.int .i64 n):=oO.key (xZ h)
def pK (G:Int->Nat) (n:Int) (g:Nat):Int->Nat:=λk=>if k=n then g else G k
theorem zQ (G:Int->Nat) (n:Int) (g:Nat):pK G n g n=g:=if_pos rfl
theorem vP (G:Int->Nat) {n k:Int} (g:Nat) (h:k≠n):pK G n g k=G k:=if_neg h
def Lv (w:World) (x:Nat):Prop:=∃cs T,w.heap[x]?=some (.cells cs T (0,0))
def gxF (gs:List Nat) (g:Nat):Option Nat:=dq (λx=>decide (x=g)) gs 0
def yW (x:Nat):Array Value:=#[Zp x]
def Kq (A:Nat->Prop) (W W2:World):Prop:=∀b,A b->W2.heap[b]?=W.heap[b]?
theorem Kq.trans {A:Nat->Prop} {a b c:World} (h:Kq A a b) (k:Kq A b c):Kq A a c:=λx hx=>(k x hx).trans (h x hx)
end
end Go.Proofs.YtphkconoooeidaaGreatDoor

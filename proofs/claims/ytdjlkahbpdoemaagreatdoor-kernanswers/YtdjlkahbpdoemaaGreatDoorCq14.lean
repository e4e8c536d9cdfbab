import Derived.Test.YtdjlkahbpdoemaaGreatDoorCq13
set_option maxRecDepth 100000
set_option maxHeartbeats 8000000
set_option linter.unusedVariables false
set_option linter.unusedSimpArgs false
open Go Go.Vx Go.Proofs.Tryz Go.ChangeShapes Go.WideShapes Go.ChangeAt Go.RowKit
namespace Go.Proofs.YtdjlkahbpdoemaaGreatDoor
variable {act:Act}{K:Act->World->Prop}{Q:Exit->Act->World->Prop}{b n:Int}{y:Kt}{T:List Kt}{i r ub:Nat}{o:Oper}
theorem ags(k rg)(hr:r<32)(v):(ny k rg).set r (.int k v)=ny k (λj=>if j=r then v else rg j):=by
 apply List.ext_getElem (by simp[ny]);intro i h1 a;rw[List.getElem_set];simp only[ny,List.getElem_map,List.getElem_range];by_cases he:r=i
 ·subst he;simp
 rw[if_neg he,if_neg (λh=>he h.symm)]
theorem Vk(h:da T n=some i)(hy:y.num=n):da (T.set i y) n=some i:=by
 have⟨a,hn⟩:=Dr h;unfold da at h|-;rw[<-h];exact Rc T i 0 y a (by rw[hy,hn])
section
variable {K:Kn}
theorem aeg{K:Kn}{x:Tc}(hi:da K.T x.num=some i)(a:jn K.ss x.num x.cy x.prio=0)(hy:y={K.T.getD i .df with rg:=pk x.rg,pc:=x.pc}):di K x=(if x.yA=true then yz {K with T:=K.T.set i y,ss:=de K.ss x.num x.cy x.prio} i x.num else {K with T:=K.T.set i y,ss:=de K.ss x.num x.cy x.prio},0):=by
 have⟨b,hn⟩:=Dr hi;have c:(K.T.set i y).getD i .df=y:=by simp[List.getD_eq_getElem?_getD,b]
 unfold di;rw[hi];simp only[a,if_true];congr 1;have d:(K.T.getD i .df).st=y.st:=hy▸rfl;rw[<-hy,d];by_cases hr:x.yA=true
 ·rw[if_pos hr];unfold yz;simp only[c,List.set_set];by_cases h1:y.st=1
  ·rw[if_neg (λh=>h.2 h1),if_pos h1];have:y={y with st:=1}:=by cases y;simp only at h1;subst h1;rfl
   rw[<-this]
  rw[if_pos ⟨hr,h1⟩,if_neg h1];subst hy;rfl
 rw[if_neg hr,if_neg (λh=>hr h.1)]
end
def Og(c:Cp):Bool:=decide (c.rights<0) || decide (7<c.rights) || (c.root !=0) || (c.va !=0)
def Oe(c:Cp):Bool:=if c.kind=5 then (decide (c.aC<0) || decide (32<c.aC) || (c.guard/((2^c.aC.toNat:Nat):Int) !=0)) else (c.guard !=0) || (c.aC !=0)
def Of(c:Cp):Bool:=(c.bh !=0)&&(c.kind !=7)&&(c.kind !=8)
theorem adj(c):p6 c=(!Og c&& !Oe c&& !Of c):=by
 unfold p6 Og Oe Of;rw[Bool.eq_iff_iff];by_cases d:c.kind=5
 ·simp only[d,if_true,Bool.and_eq_true,Bool.not_eq_true',Bool.or_eq_false_iff,decide_eq_true_eq,decide_eq_false_iff_not,bne_eq_false_iff_eq,Bool.and_eq_false_iff];constructor
  ·rintro⟨⟨⟨a,a2,a3,a4⟩,b⟩,c1,c2,c3⟩;refine⟨⟨⟨⟨⟨Z,Z⟩,a3⟩,a4⟩,⟨⟨Z,Z⟩,c3⟩⟩,?_⟩;rcases b with b|b|b
   ·exact Or.inl (Or.inl b)
   ·omega
   omega
  rintro⟨⟨⟨⟨⟨a,a2⟩,a3⟩,a4⟩,⟨⟨c1,c2⟩,c3⟩⟩,b⟩;refine⟨⟨⟨Z,Z,a3,a4⟩,?_⟩,Z,Z,c3⟩;rcases b with(b|b)|b
  ·exact Or.inl b
  ·omega
  omega
 simp only[d,if_false,Bool.and_eq_true,Bool.not_eq_true',Bool.or_eq_false_iff,decide_eq_true_eq,decide_eq_false_iff_not,bne_eq_false_iff_eq,Bool.and_eq_false_iff];constructor
 ·rintro⟨⟨⟨a,a2,a3,a4⟩,b⟩,c1,c2⟩;refine⟨⟨⟨⟨⟨Z,Z⟩,a3⟩,a4⟩,⟨c1,c2⟩⟩,?_⟩;rcases b with b|b|b
  ·exact Or.inl (Or.inl b)
  ·exact Or.inl (Or.inr b)
  exact Or.inr b
 rintro⟨⟨⟨⟨⟨a,a2⟩,a3⟩,a4⟩,⟨c1,c2⟩⟩,b⟩;refine⟨⟨⟨Z,Z,a3,a4⟩,?_⟩,c1,c2⟩;rcases b with(b|b)|b
 ·exact Or.inl b
 ·exact Or.inr (Or.inl b)
 exact Or.inr (Or.inr b)
def jd:List Value:=[O 0,O 0,O 0,J 0,J 0,O 0,O 0,J 0]
theorem alH:(prog.info? 84).map (·.size)=some 8:=Zx
section
variable {w:Z0}{K:Kn}
theorem nx{K:Act->World->Prop}(x y)(b:o.op=.store 84 x y)(c:o.dst=none){u:Cp}(d:act.eval x=M ub)(hy:act.eval y=.agg (bj u).toArray)(a:w.heap[ub]?=some (.cells jd.toArray 84 (0,0)))(h:K act (w.setCells ub 0 (bj u))):Oper.wp prog o act w K Q:=by
 have ht:w.there ub 0 (bj u).toArray.size:=λj e=>by
  refine⟨?_,fX a _⟩;rw[Nat.zero_add,cell_of_row _ _ j _ _ (0,0) a,List.getElem?_toArray,List.getElem?_eq_getElem (show j<jd.length from e)];rfl
 refine wp_store_mid 84 x y b ub 0 _ d hy ht (by rw[alH];rfl) (all_oneCell_toArray (λv hv=>by
  unfold bj at hv;simp only[List.mem_cons,List.not_mem_nil,or_false] at hv;rcases hv with rfl|rfl|rfl|rfl|rfl|rfl|rfl|rfl<;>rfl)) ?_
 rwa[c]
end
theorem Yf(n w):Zk 92 #[O n] w λe w'=>Zr e (.bool (decide (0<=n/\n<8)))/\w'=w:=by
 by_cases a:0<=n
 ·have c:=a;by_cases b:n<8
  ·rw[decide_eq_true ⟨a,b⟩];go_enter func92,ntmps92;go_wp2_with fail;all_goals
    go_ret;exact⟨rfl,rfl⟩
  rw[decide_eq_false (λh=>b h.2)];go_enter func92,ntmps92;go_wp2_with fail;all_goals
   go_ret;exact⟨rfl,rfl⟩
 rw[decide_eq_false (λh=>a h.1)];have c:=a;go_enter func92,ntmps92;go_wp2_with fail;all_goals
  go_ret;exact⟨rfl,rfl⟩
theorem aln(n w):Zk 128 #[O n] w λe w'=>Zr e (.bool (decide (0<=n/\n<8)))/\w'=w:=by
 by_cases a:0<=n
 ·have c:=a;by_cases b:n<8
  ·rw[decide_eq_true ⟨a,b⟩];go_enter func128,ntmps128;go_wp2_with fail;all_goals
    go_ret;exact⟨rfl,rfl⟩
  rw[decide_eq_false (λh=>b h.2)];go_enter func128,ntmps128;go_wp2_with fail;all_goals
   go_ret;exact⟨rfl,rfl⟩
 rw[decide_eq_false (λh=>a h.1)];have c:=a;go_enter func128,ntmps128;go_wp2_with fail;all_goals
  go_ret;exact⟨rfl,rfl⟩
theorem adE:∀s:Fin 65,1<=s.val->(bits BinOp.and IntKind.i64 (s.val:Int) ((s.val:Int) - 1)==0)=iO (s.val:Int):=I
theorem alp(s w):Zk 83 #[O s] w λe w'=>Zr e (.bool (iO s))/\w'=w:=by
 by_cases h1:1<=s
 ·have a:=h1;by_cases b:s<=64
  ·have hb:=adE ⟨s.toNat,Z⟩ (by show 1<=s.toNat;omega);dsimp only at hb;rw[Int.toNat_of_nonneg Z] at hb;have c:=Zh (s - 1) Z;cases ht:iO s with
   |true=>
    rw[ht] at hb;have d:bits BinOp.and IntKind.i64 s (s - 1)=0:=by simpa using hb
    go_enter func83,ntmps83;go_wp2_with fail;all_goals
     go_ret;exact⟨rfl,rfl⟩
   |false=>
    rw[ht] at hb;go_enter func83,ntmps83;go_wp2_with fail;all_goals
     go_ret;exact⟨rfl,rfl⟩
  rw[show iO s=false from decide_eq_false Z];go_enter func83,ntmps83;go_wp2_with fail;all_goals
   go_ret;exact⟨rfl,rfl⟩
 rw[show iO s=false from decide_eq_false Z];have a:=h1;go_enter func83,ntmps83;go_wp2_with fail;all_goals
  go_ret;exact⟨rfl,rfl⟩
theorem aiK:∀a b:Fin 8,(bits BinOp.andNot IntKind.i64 (a.val:Int) (b.val:Int)==0)=decide (a.val&&&b.val=a.val):=I
theorem aoV(r)(hb:0<=b/\b<=7)(hr:af r):(bits BinOp.andNot IntKind.i64 r b==0)= !decide (r<0\/7<r\/qh r b=false):=by
 by_cases c:0<=r/\r<=7
 ·have h1:=aiK ⟨r.toNat,Z⟩ ⟨b.toNat,Z⟩;dsimp only at h1;rw[Int.toNat_of_nonneg c.1,Int.toNat_of_nonneg hb.1] at h1;rw[h1];unfold qh;by_cases hs:r.toNat&&&b.toNat=r.toNat
  ·rw[decide_eq_true hs,decide_eq_false (by simp;omega)];rfl
  rw[decide_eq_false hs,decide_eq_true (by simp)];rfl
 rw[decide_eq_true (show r<0\/7<r\/qh r b=false from Z)];show(bits BinOp.andNot IntKind.i64 r b==0)=false;rw[beq_eq_false_iff_ne];intro d;have h1:IntKind.i64.wrap ((BitVec.ofInt 64 r&&&~~~BitVec.ofInt 64 b).toNat:Int)=0:=d;have l:=(BitVec.ofInt 64 r&&&~~~BitVec.ofInt 64 b).isLt;rw[IntKind.wrap_i64] at h1;have e:(BitVec.ofInt 64 r&&&~~~BitVec.ofInt 64 b).toNat=0:=Z;have f:BitVec.ofInt 64 r&&&~~~BitVec.ofInt 64 b=0#64:=BitVec.eq_of_toNat_eq (by rw[e];rfl);have g:BitVec.ofInt 64 r&&&BitVec.ofInt 64 b=BitVec.ofInt 64 r:=by
  apply BitVec.eq_of_getLsbD_eq;intro i hi;have a:(BitVec.ofInt 64 r&&&~~~BitVec.ofInt 64 b).getLsbD i=false:=by rw[f];simp
  rw[BitVec.getLsbD_and,BitVec.getLsbD_not] at a;rw[BitVec.getLsbD_and];cases h:(BitVec.ofInt 64 r).getLsbD i
  ·rfl
  rw[h] at a;cases j:(BitVec.ofInt 64 b).getLsbD i
  ·rw[j] at a;simp[hi] at a
  rfl
 have k:(BitVec.ofInt 64 r).toNat<=7:=by
  rw[<-g,BitVec.toNat_and];refine Nat.le_trans Nat.and_le_right ?_;rw[BitVec.toNat_ofInt];omega
 rw[BitVec.toNat_ofInt] at k;unfold af at hr;omega
def Ch(c:Cp)(r:Int):Bool:= !decide (r<0\/7<r\/qh r c.rights=false)
theorem aaq(c)(f:0<=c.rights/\c.rights<=7)(r)(hr:af r)(w):Zk 60 #[bz c,O r] w λe w'=>Zr e (.bool (Ch c r))/\Zq w w':=by
 have hb:=aoV r f hr;have g:Ch c r= !decide (r<0\/7<r\/qh r c.rights=false):=rfl;rw[<-g] at hb;have⟨k,n,ri,bd,gu,a,ro,va⟩:=c;dsimp only[bz] at*;have⟨B,b⟩:=Ze (Ch ⟨k,n,ri,bd,gu,a,ro,va⟩ r);rw[<-b] at hb|-;clear b;have d:Hid (Zq w (w.alloc (.cells #[O k,O n,O ri,J bd,J gu,O a,O ro,J va] 84))):=(H.refl _ w).alloc _
 cases B with
 |true=>
  have h:bits BinOp.andNot IntKind.i64 r ri=0:=by simpa using hb
  go_enter func60,ntmps60;go_wp2_with fail;all_goals
   go_ret;exact⟨rfl,d.j⟩
 |false=>
  go_enter func60,ntmps60;go_wp2_with fail;all_goals
   go_ret;exact⟨rfl,d.j⟩
theorem aod(c up)(h:0<=c.rights/\c.rights<=7):rW c up=(decide (up.kind=c.kind/\up.num=c.num)&&Ch up c.rights&&decide (up.bh=0\/up.bh=c.bh)):=by
 unfold rW Ch;have:(!decide (c.rights<0\/7<c.rights\/qh c.rights up.rights=false))=qh c.rights up.rights:=by
  cases qh c.rights up.rights with
  |true=>simp;omega
  |false=>simp
 rw[this]
theorem ajo(c up)(K:0<=c.rights/\c.rights<=7)(hu:0<=up.rights/\up.rights<=7)(w):Zk 89 #[bz c,bz up] w λe w'=>Zr e (.bool (rW c up))/\Zq w w':=by
 rw[aod c up K];have o:=Y (λw=>aaq up hu c.rights (by unfold af;omega) w);have⟨B,N⟩:=Ze (Ch up c.rights);rw[<-N] at o|-;clear N;obtain⟨k,n,ri,bd,gu,p,ro,va⟩:=c;obtain⟨l,n2,q,d,r,s,t,u⟩:=up;dsimp only[bz] at*;clear K hu;obtain⟨w1,b⟩:=Ze ((w.alloc (.cells #[O k,O n,O ri,J bd,J gu,O p,O ro,J va] 84)).alloc (.cells #[O l,O n2,O q,J d,J r,O s,O t,J u] 84));have m:Hid (Zq w w1):=by rw[b];exact((H.refl _ w).alloc _).alloc _
 have⟨P,f⟩:=Ze (w.heap.size);have⟨Q,g⟩:=Ze (w.heap.size+1);have v:w1.heap[Q]?=some (.cells #[O l,O n2,O q,J d,J r,O s,O t,J u] 84 (0,0)):=by
  have R:=heap_alloc_last (w.alloc (.cells #[O k,O n,O ri,J bd,J gu,O p,O ro,J va] 84)) (.cells #[O l,O n2,O q,J d,J r,O s,O t,J u] 84);rw[show(w.alloc (.cells #[O k,O n,O ri,J bd,J gu,O p,O ro,J va] 84)).heap.size=w.heap.size+1 by simp] at R;rwa[b,g]
 have x:w1.heap[P]?=some (.cells #[O k,O n,O ri,J bd,J gu,O p,O ro,J va] 84 (0,0)):=by
  rw[b,f];exact H.keep ((H.refl (λ_=>False) _).alloc _) (heap_alloc_last w _) id
 have⟨⟨c0,c1,c2,c3,c4,c5,c6,c7⟩,_⟩:=lQ x;have⟨⟨d0,d1,d2,d3,d4,d5,d6,d7⟩,_⟩:=lQ v;have i:=Y (⟨x,v⟩:_/\_);clear x v;by_cases g1:l=k
 ·by_cases g2:n2=n
  ·rw[decide_eq_true ⟨g1,g2⟩];subst g1;subst g2
   cases B with
   |false=>
    rw[show(true&&false&&decide (d=0\/d=bd))=false from rfl];go_enter func89,ntmps89;go_upto_region 1 with fail
    rw[<-b,<-g,<-f];clear b f g;go_wp2_with fail;refine(o.j _).m ?_;rintro e w2 ⟨rfl,a⟩;have j:=Y a;obtain⟨⟨y,e1,z,A,C,D,F,G⟩,_⟩:=lQ (H.keep a i.j.1 id);obtain⟨⟨f0,f1,f2,f3,f4,f5,f6,f7⟩,_⟩:=lQ (H.keep a i.j.2 id);clear a c0 c1 c2 c3 c4 c5 c6 c7 d0 d1 d2 d3 d4 d5 d6 d7;go_wp2_with fail
    all_goals
     go_ret
     exact⟨rfl,m.j.trans j.j⟩
   |true=>
    by_cases g3:d=0
    ·rw[decide_eq_true (Or.inl g3)];rw[show(true&&true&&true)=true from rfl];subst g3;go_enter func89,ntmps89;go_upto_region 1 with fail
     rw[<-b,<-g,<-f];clear b f g;go_wp2_with fail;refine(o.j _).m ?_;rintro e w2 ⟨rfl,a⟩;have j:=Y a;obtain⟨⟨y,e1,z,A,C,D,F,G⟩,_⟩:=lQ (H.keep a i.j.1 id);obtain⟨⟨f0,f1,f2,f3,f4,f5,f6,f7⟩,_⟩:=lQ (H.keep a i.j.2 id);clear a c0 c1 c2 c3 c4 c5 c6 c7 d0 d1 d2 d3 d4 d5 d6 d7;go_wp2_with fail
     all_goals
      go_ret;exact⟨rfl,m.j.trans j.j⟩
    have g4:(d==0)=false:=by simpa using g3
    by_cases g5:d=bd
    ·rw[decide_eq_true (Or.inr g5)];rw[show(true&&true&&true)=true from rfl];subst g5;clear g3;go_enter func89,ntmps89;go_upto_region 1 with fail
     rw[<-b,<-g,<-f];clear b f g;go_wp2_with fail;refine(o.j _).m ?_;rintro e w2 ⟨rfl,a⟩;have j:=Y a;obtain⟨⟨y,e1,z,A,C,D,F,G⟩,_⟩:=lQ (H.keep a i.j.1 id);obtain⟨⟨f0,f1,f2,f3,f4,f5,f6,f7⟩,_⟩:=lQ (H.keep a i.j.2 id);clear a c0 c1 c2 c3 c4 c5 c6 c7 d0 d1 d2 d3 d4 d5 d6 d7;go_wp2_with fail
     all_goals
      go_ret;exact⟨rfl,m.j.trans j.j⟩
    rw[decide_eq_false (λh=>h.elim g3 g5)];rw[show(true&&true&&false)=false from rfl];have g6:(d==bd)=false:=by simpa using g5
    clear g3 g5;go_enter func89,ntmps89;go_upto_region 1 with fail
    rw[<-b,<-g,<-f];clear b f g;go_wp2_with fail;refine(o.j _).m ?_;rintro e w2 ⟨rfl,a⟩;have j:=Y a;obtain⟨⟨y,e1,z,A,C,D,F,G⟩,_⟩:=lQ (H.keep a i.j.1 id);obtain⟨⟨f0,f1,f2,f3,f4,f5,f6,f7⟩,_⟩:=lQ (H.keep a i.j.2 id);clear a c0 c1 c2 c3 c4 c5 c6 c7 d0 d1 d2 d3 d4 d5 d6 d7;go_wp2_with fail
    all_goals
     go_ret;exact⟨rfl,m.j.trans j.j⟩
  rw[decide_eq_false (λh=>g2 h.2)];rw[show(false&&B&&decide (d=0\/d=bd))=false from rfl];have g3:(n2==n)=false:=by simpa using g2
  have g4:(n==n2)=false:=by simpa using λh=>g2 h.symm
  subst g1;clear g2;go_enter func89,ntmps89;go_upto_region 1 with fail
  rw[<-b,<-g,<-f];clear b f g;go_wp2_with fail
  all_goals
   go_ret;exact⟨rfl,m.j⟩
 rw[decide_eq_false (λh=>g1 h.1)];rw[show(false&&B&&decide (d=0\/d=bd))=false from rfl];have g3:(l==k)=false:=by simpa using g1
 have g4:(k==l)=false:=by simpa using λh=>g1 h.symm
 clear g1;go_enter func89,ntmps89;go_upto_region 1 with fail
 rw[<-b,<-g,<-f];clear b f g;go_wp2_with fail
 all_goals
  go_ret;exact⟨rfl,m.j⟩
theorem alk(c)(hg:ot c)(w):Zk 88 #[bz c] w λe w'=>Zr e (.bool (p6 c))/\Zq w w':=by
 obtain⟨V,m⟩:=Ze (p6 c);rw[<-m];have o:=Y (m.trans (adj c));obtain⟨C,p⟩:=Ze (c);rw[<-p] at o;obtain⟨k,n,ri,bd,gu,b,ro,va⟩:=c;have q:=Y p;clear m p;dsimp only[bz];have x:=hg;unfold ot at x;dsimp only at x;clear hg;obtain⟨w2,l⟩:=Ze (w.alloc (.cells #[O k,O n,O ri,J bd,J gu,O b,O ro,J va] 84));obtain⟨N,r⟩:=Ze (w.heap.size);have f:Hid (Zq w w2):=by rw[l];exact(H.refl _ w).alloc _
 have h1:w2.heap[N]?=some (.cells #[O k,O n,O ri,J bd,J gu,O b,O ro,J va] 84 (0,0)):=by rw[l,r];exact heap_alloc_last w _
 obtain⟨⟨c0,c1,c2,c3,c4,c5,c6,c7⟩,_⟩:=lQ h1;clear h1;obtain⟨g,y⟩:=Ze (Og C);have z:=Y y;clear y;obtain⟨d,A⟩:=Ze (Oe C);have B:=Y A;clear A;obtain⟨h,D⟩:=Ze (Of C);have F:=Y D;clear D;have a:Hid (V=(!g&& !d&& !h)):=by rw[z.j,B.j,F.j];exact o.j
 clear o;go_enter func88,ntmps88;go_upto_region 1 with fail
 rw[<-l,<-r];clear l r;go_cut [20] from 3 to 20 (λc s=>c=.bool g/\s=w2)
 case first=>
  have hb:=z.j;rw[q.j] at hb;unfold Og at hb;dsimp only at hb;by_cases r1:ri<0
  ·obtain rfl:g=true:=by rw[hb];simp[r1]
   clear hb
   go_wp2
   go_meet;exact⟨rfl,rfl⟩
  by_cases r2:7<ri
  ·obtain rfl:g=true:=by rw[hb];simp[r2]
   clear hb
   go_wp2
   go_meet;exact⟨rfl,rfl⟩
  by_cases r3:ro=0
  ·subst r3;by_cases j:va=0
   ·subst j;obtain rfl:g=false:=by rw[hb];simp[r1,r2]
    clear hb
    go_wp2
    go_meet;exact⟨rfl,rfl⟩
   have r5:(va !=0)=true:=by simpa using j
   obtain rfl:g=true:=by rw[hb];simp[r5]
   clear hb
   go_wp2
   go_meet;exact⟨rfl,rfl⟩
  have r5:(ro !=0)=true:=by simpa using r3
  obtain rfl:g=true:=by rw[hb];simp[r5]
  clear hb
  go_wp2
  go_meet;exact⟨rfl,rfl⟩
 case rest=>
  obtain⟨rfl,t⟩:=hcut;have t:=t.symm;subst t
  cases g with
  |true=>
   have a:Hid (V=false):=a.j;go_wp2_with fail
   all_goals
    go_ret
    exact⟨by rw[a.j];rfl,f.j⟩
  |false=>
   go_upto_region 3 with fail
   go_cut [35] from 21 to 35 (λc s=>c=.bool h/\s=w2)
   case first=>
    have hb:=F.j;rw[q.j] at hb;unfold Of at hb;dsimp only at hb;by_cases r1:bd=0
    ·have r5:(bd !=0)=false:=by simpa using r1
     obtain rfl:h=false:=by rw[hb];simp[r1]
     clear r1;clear hb
     go_wp2
     go_meet;exact⟨rfl,rfl⟩
    have r5:(bd !=0)=true:=by simpa using r1
    clear r1;by_cases r2:k=7
    ·have G:(k !=7)=false:=by simpa using r2
     obtain rfl:h=false:=by rw[hb];simp[r2]
     clear r2;clear hb
     go_wp2
     go_meet;exact⟨rfl,rfl⟩
    have G:(k !=7)=true:=by simpa using r2
    clear r2;by_cases r3:k=8
    ·have K:(k !=8)=false:=by simpa using r3
     obtain rfl:h=false:=by rw[hb];simp[r3]
     clear r3;clear hb
     go_wp2
     go_meet;exact⟨rfl,rfl⟩
    have K:(k !=8)=true:=by simpa using r3
    obtain rfl:h=true:=by rw[hb,r5,G,K];rfl
    clear r3;clear hb
    go_wp2
    go_meet;exact⟨rfl,rfl⟩
   case rest=>
    obtain⟨rfl,u⟩:=hcut;have u:=u.symm;subst u
    cases h with
    |true=>
     have a:Hid (V=false):=by show V=false;rw[a.j];cases d<;>rfl
     go_wp2_with fail
     all_goals
      go_ret
      exact⟨by rw[a.j];rfl,f.j⟩
    |false=>
     have a:Hid (V= !d):=by show V=_;rw[a.j];cases d<;>rfl
     have hb:=B.j;rw[q.j] at hb;unfold Oe at hb;dsimp only at hb;by_cases i:k=5
     ·have v:(k !=5)=false:=by simpa using i
      rw[if_pos i] at hb;clear i;have P:IntKind.u64.wrap gu=gu:=by rw[IntKind.wrap_u64];omega
      by_cases r1:b<0
      ·have r2:¬b>=0:=Z;obtain rfl:d=true:=by rw[hb];simp[r1]
       clear hb;go_wp2_with fail
       all_goals
        go_ret;exact⟨by rw[a.j];rfl,f.j⟩
      by_cases r3:32<b
      ·have r2:b>=0:=Z;have j:¬b<=32:=Z;obtain rfl:d=true:=by rw[hb];simp[r3]
       clear hb;go_wp2_with fail
       all_goals
        go_ret;exact⟨by rw[a.j];rfl,f.j⟩
      have r2:b>=0:=Z;have j:b<=32:=Z;rw[decide_eq_false r1,decide_eq_false r3] at hb;have Q:=Y hb;clear hb r1 r3;go_wp2_with fail
      all_goals
       go_ret;exact⟨by rw[a.j,Q.j];show Ending.returned (Value.bool (gu/2^b.toNat==0))=_;simp[bne],f.j⟩
     have v:(k !=5)=true:=by simpa using i
     rw[if_neg i] at hb;clear i;by_cases r1:gu=0
     ·subst r1;by_cases r2:b=0
      ·subst r2;obtain rfl:d=false:=by rw[hb];rfl
       clear hb;go_wp2_with fail
       all_goals
        go_ret;exact⟨by rw[a.j];rfl,f.j⟩
      have j:(b==0)=false:=by simpa using r2
      obtain rfl:d=true:=by rw[hb];simp[r2]
      clear hb r2;go_wp2_with fail
      all_goals
       go_ret;exact⟨by rw[a.j];rfl,f.j⟩
     have r3:(gu==0)=false:=by simpa using r1
     obtain rfl:d=true:=by rw[hb];simp[r1]
     clear hb r1;go_wp2_with fail
     all_goals
      go_ret;exact⟨by rw[a.j];rfl,f.j⟩
end Go.Proofs.YtdjlkahbpdoemaaGreatDoor

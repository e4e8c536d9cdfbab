import Derived.Test.YtdjlkahbpdoemaaGreatDoorCq1
import Derived.Laws.BitsAllLaws
import Derived.Laws.BitsLemmas
set_option maxRecDepth 100000
set_option maxHeartbeats 8000000
set_option linter.unusedVariables false
set_option linter.unusedSimpArgs false
open Go Go.Vx Go.Proofs.Tryz Go.ChangeShapes Go.WideShapes Go.ChangeAt Go.RowKit
variable {a:Act}{ops:Array Oper}{Q:Exit->Act->World->Prop}{b bm bp i n z:Nat}{q:Nat->Option Nat}{o:Oper}{P:Program}{e t:TypeId}{w w' w2:Z0}{S U V:Z1}
namespace Go.Vx
abbrev ff:=(Nat->Prop)->World->Prop
def jX(P:ff):Prop:=∀(U V S:Z1) (w w2:Z0),P U w->H S w w2->(∀k,k<w.heap.size->S k->U k)->(∀k,V k->U k\/(w.heap.size<=k/\k<w2.heap.size))->P V w2
def aN(Ps:List ff):ff:=λU w=>(∀k,U k->k<w.heap.size)/\∃C:Nat->Nat->Prop,(∀i P,Ps[i]?=some P->jX P/\P (λk=>k<w.heap.size/\¬C i k) w)/\(∀i j k,C i k->C j k->i=j)/\∀i k,C i k->k<w.heap.size/\¬U k
theorem aN.ul{a:List ff}(h:aN a U w):∀k,U k->k<w.heap.size:=h.1
theorem aiS{k:Nat}{P:Prop}(hk:k<w2.heap.size/\P):(k<w.heap.size/\P)\/(w.heap.size<=k/\k<w2.heap.size):=by
 by_cases h1:k<w.heap.size
 ·exact Or.inl ⟨h1,hk.2⟩
 exact Or.inr ⟨Z,hk.1⟩
theorem aN.dF(f):jX (aN f):=by
 rintro U V S w w2 ⟨hu,C,hp,g,a⟩ c h d;have hs:=c.size;refine⟨λk hk=>?_,C,λi P hi=>⟨(hp i P hi).1,(hp i P hi).1 _ _ S w w2 (hp i P hi).2 c (λk hk h1=>⟨hk,λb=>(a i k b).2 (h k hk h1)⟩) (λk hk=>aiS hk)⟩,g,λi k hk=>⟨by have:=(a i k hk).1;omega,λh1=>?_⟩⟩
 ·rcases d k hk with h1|h1
  ·have:=hu k h1;omega
  exact h1.2
 have b:=a i k hk;rcases d k h1 with e|e
 ·exact b.2 e
 omega
theorem aN.quiet{a:List ff}(h:aN a U w)(b:Zq w w2):aN a U w2:=aN.dF a U U _ w w2 h b (λ_ _ h=>h.elim) (λ_ h=>Or.inl h)
theorem jX.j{P:ff}(a:jX P)(h:P U w)(b:H S w w2)(c:∀k,k<w.heap.size->S k->U k):P U w2:=a U U S w w2 h b c (λ_ h=>Or.inl h)
theorem aN.open{l:List ff}(h:aN l U w)(i){P:ff}(hi:l[i]?=some P):
  ∃d:Z1,P d w/\(∀k,U k->d k)/\(∀k,d k->k<w.heap.size)/\∀(g:ff) (w2:Z0),jX g->g d w2->Zn d w w2->aN (l.set i g) U w2/\Zn U w w2:=by
 have⟨hu,C,hp,o,e⟩:=h;refine⟨_,(hp i P hi).2,λk hk=>⟨hu k hk,λh1=>(e i k h1).2 hk⟩,λk hk=>hk.1,λg w2 p m n=>⟨?_,n.mono (λk hk h1 m=>h1 ⟨hk,λb=>(e i k b).2 m⟩)⟩⟩;have hs:=n.size;refine⟨λk hk=>by have:=hu k hk;omega,λj k=>C j k\/(j=i/\w.heap.size<=k/\k<w2.heap.size),λj Q c=>?_,λj q k b a=>?_,λj k hk=>?_⟩
 ·by_cases he:j=i
  ·subst he;rw[List.getElem?_set_self ((List.getElem?_eq_some_iff.1 hi).1)] at c;injection c with c
   subst c;refine⟨p,p _ _ (λ_=>False) w2 w2 m (H.refl _ _) (λ_ _ h=>h.elim) (λk hk=>Or.inl ?_)⟩;have b:¬(w.heap.size<=k/\k<w2.heap.size):=λa=>hk.2 (Or.inr ⟨rfl,a⟩);exact⟨by have:=hk.1;omega,λa=>hk.2 (Or.inl a)⟩
  rw[List.getElem?_set_ne (λh=>he h.symm)] at c;refine⟨(hp j Q c).1,(hp j Q c).1 _ _ _ w w2 (hp j Q c).2 n (λk hk h1=>⟨hk,λf=>h1 ⟨hk,λr=>he (o j i k f r)⟩⟩) (λk hk=>?_)⟩;by_cases h1:k<w.heap.size
  ·exact Or.inl ⟨h1,λf=>hk.2 (Or.inl f)⟩
  exact Or.inr ⟨Z,hk.1⟩
 ·rcases b with b|b<;>rcases a with a|a
  ·exact o j q k b a
  ·have:=(e j k b).1;omega
  ·have:=(e q k a).1;omega
  rw[b.1,a.1]
 rcases hk with hk|hk
 ·have:=e j k hk;exact⟨Z,this.2⟩
 exact⟨hk.2.2,λf=>by have:=hu k f;omega⟩
theorem aN.at{d:List ff}(h:aN d U w)(i:Nat){P:ff}(hi:d[i]?=some P):∃c:Z1,P c w/\∀k,U k->c k:=by
 have⟨c,a,b,_⟩:=h.open i hi;exact⟨c,a,b⟩
theorem aN.more{a:List ff}(h:aN a U w){P:ff}(g:jX P)(m:P (λk=>k<w.heap.size) w2)(i:Zq w w2):aN (a++[P]) U w2:=by
 have hs:=i.size;have⟨hu,C,hp,n,e⟩:=h;have o:∀k,¬C a.length k\/C a.length k:=λk=>(Classical.em _).symm;refine⟨λk hk=>by have:=hu k hk;omega,λj k=>(j<a.length/\C j k)\/(j=a.length/\w.heap.size<=k/\k<w2.heap.size),λj Q b=>?_,λj l k d c=>?_,λj k hk=>?_⟩
 ·by_cases he:j<a.length
  ·rw[List.getElem?_append_left he] at b;refine⟨(hp j Q b).1,(hp j Q b).1 _ _ _ w w2 (hp j Q b).2 i (λ_ _ h=>h.elim) (λk hk=>?_)⟩;by_cases h1:k<w.heap.size
   ·exact Or.inl ⟨h1,λf=>hk.2 (Or.inl ⟨he,f⟩)⟩
   exact Or.inr ⟨Z,hk.1⟩
  have p:j=a.length:=by
   have:=(List.getElem?_eq_some_iff.1 b).1;rw[List.length_append,List.length_singleton] at this;omega
  subst p;rw[List.getElem?_append_right (Nat.le_refl _),Nat.sub_self] at b;simp only[List.getElem?_cons_zero,Option.some.injEq] at b;subst b;refine⟨g,g _ _ (λ_=>False) w2 w2 m (H.refl _ _) (λ_ _ h=>h.elim) (λk hk=>Or.inl ?_)⟩;have d:¬(w.heap.size<=k/\k<w2.heap.size):=λc=>hk.2 (Or.inr ⟨rfl,c⟩);have:=hk.1;omega
 ·rcases d with d|d<;>rcases c with c|c
  ·exact n j l k d.2 c.2
  ·have:=(e j k d.2).1;omega
  ·have:=(e l k c.2).1;omega
  rw[d.1,c.1]
 rcases hk with hk|hk
 ·have:=e j k hk.2;exact⟨Z,this.2⟩
 exact⟨hk.2.2,λf=>by have:=hu k f;omega⟩
def zC(b:Nat)(o:Obj):ff:=λU w=>w.heap[b]?=some o/\¬U b/\∀k,U k->k<w.heap.size
theorem zC.dF(b o):jX (zC b o):=by
 rintro U V S w w2 ⟨h1,c,f⟩ d g e;have hb:=aB h1;have hs:=d.size;refine⟨(d.block b hb (λh=>c (g b hb h))).trans h1,λh=>?_,λk hk=>?_⟩
 ·rcases e b h with a|a
  ·exact c a
  omega
 rcases e k hk with a|a
 ·have:=f k a;omega
 exact a.2
def Nu(U:Z1)(a b:Nat):Nat->Prop:=λk=>U k\/(a<=k/\k<b)
theorem aN.wide{a:List ff}(h:aN a U w)(b:Zq w w2):aN a (Nu U w.heap.size w2.heap.size) w2:=aN.dF a U _ _ w w2 h b (λ_ _ h=>h.elim) (λ_ h=>h)
theorem aN.thin{a:List ff}(h:aN a V w)(b:∀k,U k->V k):aN a U w:=aN.dF a V U _ w w h (H.refl (λ_=>False) w) (λ_ _ h=>h.elim) (λk hk=>Or.inl (b k hk))
section
variable {α:Type}
structure Kind(P:Program)(L:Lay α)(t e:TypeId):Prop where
 ht:P.underlying t=some (.slice e)
 hi:∃(i:TypeInfo) (z:Z3),P.info? e=some i/\i.zero=some z/\i.size=L.sz/\i.bytes<=1000/\z.cells.size=L.sz
theorem afX{L:Lay α}(hk:Kind P L t e)(w ty p n cap)(h:n<=cap)(q c):(Builtin.append_ #[t,t] ty #[.slice p n cap,.slice q 0 c]).run P w=.ok (.slice p n cap) w:=by
 have⟨i,z,hi,d,hs,hb,f⟩:=hk.hi;have hf:(Builtin.firstCells L.sz 0 (.slice q 0 c)).run P w=.ok #[] w:=by
  cases q with
  |none=>simp[Builtin.firstCells]
  |some a=>simp[Builtin.firstCells,loadCells,loadCellsFrom]
 have b:=hs▸hf;cases p with
 |none=>simp[Builtin.append_,run_underlying hk.ht,sizeOf,typeInfo,hi,Builtin.lenOf,h,b]
 |some a=>simp[Builtin.append_,run_underlying hk.ht,sizeOf,typeInfo,hi,Builtin.lenOf,h,b,storeCells]
theorem We{L:Lay α}(hk:Kind P L t e)(w ty base v xs)(l:ax L w base e v xs)(q c a)(n:0<a.length->∃f,q=some f/\∀j u,(fl L a)[j]?=some u->w.cell? (f.add j)=some u)(hlen:xs.length+a.length<=10000000)(o:base<=w.heap.size):
  ∃h w',(Builtin.append_ #[t,t] ty #[v,.slice q a.length c]).run P w=.ok h w'/\ax L w' base e h (xs++a)/\H (λk=>v.ownBlock=some k) w w'/\(h.ownBlock=v.ownBlock\/∃g,h.ownBlock=some g/\w.heap.size<=g/\Zq w w'):=by
 by_cases r:a.length=0
 ·have hy:=List.length_eq_zero_iff.1 r;subst hy;obtain⟨p,cap,rfl,s,_,_⟩:=l.form;refine⟨_,w,afX hk w ty p xs.length cap s q c,by rw[List.append_nil];exact l,H.refl _ w,Or.inl rfl⟩
 obtain⟨f,rfl,m⟩:=n Z;have⟨i,z,hi,x,hs,hb,y⟩:=hk.hi;have A:(xs.length+a.length)*i.bytes<=140737488355328:=Nat.le_trans (Nat.mul_le_mul hlen hb) I;have⟨g,cap,w',hr,B,b,C⟩:=afY (P:=P) w t ty base e i z L.sz i.bytes hk.ht hi x hs rfl y L.pos v xs.length (fl L xs) l f a.length c (fl L a) (uv L a) m (aip L a) Z (by unfold maxLen;omega) A o;refine⟨_,w',hr,?_,?_,?_⟩
 ·show w'.ownsRow _ _ _ _ (xs++a).length _;rwa[ano,List.length_append]
 ·rcases b with⟨b,d⟩|⟨b,d⟩
  ·exact H.grown (H.refl _ w) d (λk hk=>Or.inl (by rw[b,hk]))
  exact H.grown (H.refl _ w) d (λk hk=>by cases hk)
 rcases b with⟨b,d⟩|⟨b,d⟩
 ·exact Or.inl b.symm
 exact Or.inr ⟨g,rfl,Z,H.grown (H.refl _ w) d (λk hk=>by cases hk)⟩
theorem UR{L:Lay α}(hk:Kind P L t e)(w){rest:List Oper}(i:o.guard=none)(s x)(l:o.op=.call {callee:=.builtin .append,args:=#[s,x],argTypes:=#[t,t]})(base v xs)(hs:a.eval s=v)(m:ax L w base e v xs)(q c n b)(p:a.eval x=.slice q n c)(hn:n=b.length)(r:0<b.length->∃f,q=some f/\∀j u,(fl L b)[j]?=some u->w.cell? (f.add j)=some u)(hlen:xs.length+b.length<=10000000)(y:base<=w.heap.size)(h:∀d w',ax L w' base e d (xs++b)->H (λk=>v.ownBlock=some k) w w'->(d.ownBlock=v.ownBlock\/∃g,d.ownBlock=some g/\w.heap.size<=g/\Zq w w')->wpList P ops Q rest (a.put o.dst d) w'):wpList P ops Q (o::rest) a w:=by
 subst hn;refine wpList_plain i λK z=>?_;have⟨d,w',hr,A,B,C⟩:=We hk w o.type base v xs m q c b r hlen y;unfold Oper.wp execOp;simp only[l,resolve,invoke,builtin,Sem.run_bind,Sem.run_pure,Result.andThen_ok,List.map_toArray,List.map_cons,List.map_nil,hs,p,hr];exact z _ _ (h d w' A B C)
theorem wH{L:Lay α}(hk:Kind P L t e)(w){rest:List Oper}(m:o.guard=none)(s x)(n:o.op=.call {callee:=.builtin .append,args:=#[s,x],argTypes:=#[t,t]})(base v xs)(hs:a.eval s=v)(p:ax L w base e v xs)(y i f)(q:f=(L.cf y).toArray)(hb:b=w.heap.size)(r:a.eval x=Zs b 1 1)(hlen:xs.length+1<=10000000)(z:base<=w.heap.size)(h:∀c w',ax L w' base e c (xs++[y])->H (λk=>v.ownBlock=some k) w w'->(c.ownBlock=v.ownBlock\/∃g,c.ownBlock=some g/\w.heap.size<=g/\Zq w w')->wpList P ops Q rest (a.put o.dst c) w'):wpList P ops Q (o::rest) a (w.alloc (.cells f i)):=by
 subst hb;have ha:Zq w (w.alloc (.cells f i)):=(H.refl _ w).alloc _;refine UR hk _ m s x n base v xs hs (p.kept ha (λ_ _ h=>h)) (some (E w.heap.size 0)) 1 1 [y] r rfl (λ_=>⟨_,rfl,λj u l=>?_⟩) hlen (Nat.le_trans z ha.size) (λc w' h1 A d=>?_)
 ·rw[aaP] at l;rw[addr_add,Nat.zero_add,cell_of_row _ _ j _ _ (0,0) (heap_alloc_last w _),q];simpa using l
 refine h c w' h1 ((ha.f).trans A) ?_;rcases d with d|⟨g,d,B,C⟩
 ·exact Or.inl d
 exact Or.inr ⟨g,d,Nat.le_trans ha.size B,ha.trans C⟩
end
theorem H.beyond{a b c:Z0}(h:Zq a b)(d:H S b c)(f:∀k,S k->a.heap.size<=k):Zq a c:=
 ⟨d.os.trans h.os,d.tape.trans h.tape,d.output.trans h.output,Nat.le_trans h.size d.size,λk hk _=>(d.block k (Nat.lt_of_lt_of_le hk h.size) (λe=>by have:=f k e;omega)).trans (h.block k hk id)⟩
theorem H.Mu{a b c:Z0}(h:H S a b)(d:H (λk=>k=z) b c)(f:a.heap.size<=z):H S a c:=
 ⟨d.os.trans h.os,d.tape.trans h.tape,d.output.trans h.output,Nat.le_trans h.size d.size,λk hk hn=>(d.block k (Nat.lt_of_lt_of_le hk h.size) (λe=>Z)).trans (h.block k hk hn)⟩
section
open Go.RowKit (wrap32 wrap64)
theorem Xv(i x m1 m2)(h:m2<2^i):x&&&(m1*2^i+m2)=((x/2^i)&&&m1)*2^i+(x % 2^i&&&m2):=by
 apply Nat.eq_of_testBit_eq;intro j;have b:x % 2^i&&&m2<2^i:=Nat.lt_of_le_of_lt Nat.and_le_right h;rw[Nat.testBit_and,Nat.mul_comm m1,Nat.testBit_two_pow_mul_add m1 h,Nat.mul_comm _ (2^i),Nat.testBit_two_pow_mul_add _ b];by_cases a:j<i
 ·simp[a,Nat.testBit_and,Nat.testBit_mod_two_pow]
 simp[a,Nat.testBit_and,Nat.testBit_div_two_pow];congr 2;omega
theorem IC(i a b c d)(hb:b<2^i)(e:d<2^i):(a*2^i+b) ||| (c*2^i+d)=(a ||| c)*2^i+(b ||| d):=by
 apply Nat.eq_of_testBit_eq;intro j;have f:b ||| d<2^i:=Nat.or_lt_two_pow hb e
 rw[Nat.testBit_or,Nat.mul_comm a,Nat.testBit_two_pow_mul_add a hb,Nat.mul_comm c,Nat.testBit_two_pow_mul_add c e,Nat.mul_comm _ (2^i),Nat.testBit_two_pow_mul_add _ f];by_cases g:j<i<;>simp[g,Nat.testBit_or]
theorem Xt(n x):x&&&(2^n - 1)=x % 2^n:=Nat.and_two_pow_sub_one_eq_mod x n
theorem Xu(a n x):x&&&((2^n - 1)*2^a)=x/2^a % 2^n*2^a:=by
 have:=Xv a x (2^n - 1) 0 (Nat.two_pow_pos a);simp only[Nat.add_zero,Nat.and_zero] at this;rw[this,Xt]
theorem ir(a n A N x m)(b:0<=x)(h1:x<4294967296)(c:A=((2^a:Nat):Int))(hN:N=((2^n:Nat):Int))(hm:m=(((2^n - 1)*2^a:Nat):Int))(d:(2^n - 1)*2^a<4294967296):
  bits .and .u32 x m=x/A % N*A:=by
 subst hm c hN;rw[u32_and x _ b h1 (Int.natCast_nonneg _) Z,Int.toNat_natCast,Xu];obtain⟨n,rfl⟩:=Int.eq_ofNat_of_zero_le b;rw[Int.toNat_natCast];simp only[Int.natCast_mul,Int.natCast_emod,Int.natCast_ediv]
theorem Ba(i a x y)(c:a=((2^i:Nat):Int))(hi:2^i<=4294967296)(h:0<=x/\x<4294967296/\x % a=0/\0<=y/\y<a):
  bits .or .u32 x y=x+y:=by
 subst c;have⟨b,h1,d,hy,e⟩:=h;rw[u32_or x y b h1 hy Z];obtain⟨n,rfl⟩:=Int.eq_ofNat_of_zero_le b;obtain⟨k,rfl⟩:=Int.eq_ofNat_of_zero_le hy;simp only[Int.toNat_natCast];rw[nat_join i n k Z Z];omega
theorem Pn(i j a b x y z)(c:a=((2^i:Nat):Int))(d:b=((2^j:Nat):Int))(hi:2^i<=4294967296)(e:2^j<=4294967296)(h:0<=x/\x<4294967296/\x % a=0/\0<=y/\y<a)(f:0<=x+y/\x+y<4294967296/\(x+y) % b=0/\0<=z/\z<b):
  bits .or .u32 (bits .or .u32 x y) z=x+y+z:=by
 rw[Ba i a x y c hi h,Ba j b (x+y) z d e f]
theorem U7(i j k a b K x y z u)(c:a=((2^i:Nat):Int))(d:b=((2^j:Nat):Int))(e:K=((2^k:Nat):Int))(hi:2^i<=4294967296)(f:2^j<=4294967296)(hk:2^k<=4294967296)(h:0<=x/\x<4294967296/\x % a=0/\0<=y/\y<a)(g:0<=x+y/\x+y<4294967296/\(x+y) % b=0/\0<=z/\z<b)(l:0<=x+y+z/\x+y+z<4294967296/\(x+y+z) % K=0/\0<=u/\u<K):
  bits .or .u32 (bits .or .u32 (bits .or .u32 x y) z) u=x+y+z+u:=by
 rw[Pn i j a b x y z c d hi f h g,Ba k K (x+y+z) u e hk l]
theorem Rf(i a x y)(b:a=((2^i:Nat):Int))(hi:i<=31)(h: -2147483648<=x/\x<2147483648/\x % a=0/\0<=y/\y<a):
  bits .or .i32 x y=x+y:=by
 subst b;have⟨g,h1,c,hy,j⟩:=h;have hp:(2:Nat)^i*2^(32 - i)=4294967296:=by rw[<-Nat.pow_add,show i+(32 - i)=32 from Z]
 have hle:=Nat.pow_le_pow_right (n:=2) Z hi;obtain⟨k,rfl⟩:=Int.eq_ofNat_of_zero_le hy;have hb:BitVec.ofInt 32 (k:Int)=BitVec.ofNat 32 k:=by simp
 have⟨m,hm⟩:=Int.eq_ofNat_of_zero_le (show 0<=x % 4294967296 from Z);have l:m<4294967296:=Z;have ha:(BitVec.ofInt 32 x).toNat=m:=by
  simp only[BitVec.toNat_ofInt];have:x % ((2^32:Nat):Int)=(m:Int):=by rw[<-hm];rfl
  rw[this,Int.toNat_natCast]
 have d:m % 2^i=0:=by
  have e1:((m:Nat):Int) % (2^i:Nat)=0:=by
   rw[<-hm];have e:((2^i:Nat):Int)∣(4294967296:Int):=by
    refine⟨((2^(32 - i):Nat):Int),?_⟩;rw[<-Int.natCast_mul,hp];rfl
   rwa[Int.emod_emod_of_dvd _ e]
  omega
 have hk:k<2^i:=Z;have o:x+k<2147483648:=by
  have f:((2^i:Nat):Int)∣(2147483648:Int):=by
   refine⟨((2^(31 - i):Nat):Int),?_⟩;rw[<-Int.natCast_mul,<-Nat.pow_add,show i+(31 - i)=31 from Z];rfl
  have:=Int.le_of_dvd (show(0:Int)<2147483648 - x from Z) (Int.dvd_sub f (Int.dvd_of_emod_eq_zero c));omega
 show IntKind.i32.wrap ((BitVec.ofInt 32 x ||| BitVec.ofInt 32 (k:Int)).toNat:Int)=x+k;rw[BitVec.toNat_or,ha,hb,BitVec.toNat_ofNat,Nat.mod_eq_of_lt (show k<2^32 from Z),nat_join i m k d hk,IntKind.wrap_i32];omega
end
end Go.Vx
namespace Go.Proofs.YtdjlkahbpdoemaaGreatDoor
theorem Bi{a b:Z3}(h:a=b):Ending.returned a=.returned b:=h▸rfl
structure fy(U:Z1)(w:Z0)(bm bp n:Nat)(q:Nat->Option Nat)(f:Nat->UInt8):Prop where
 pos:1<=n
 top:n<=256
 m:w.heap[bm]?=some (.cells #[Zs bp n n] 197 (0,0))
 p:w.heap[bp]?=some (.cells (sM q n).toArray 275 (0,0))
 nil:∀i,i<n->q i=none->∀j,j<4096->f (4096*i+j)=0
 pg:∀i,i<n->∀b,q i=some b->w.heap[b]?=some (.cells (jf f (4096*i) 4096).toArray 338 (0,0))
 inj:∀i j b,i<n->j<n->q i=some b->q j=some b->i=j
 um:¬U bm
 up:¬U bp
 ug:∀i b,i<n->q i=some b->¬U b
 low:∀k,U k->k<w.heap.size
def cP(U:Z1)(w:Z0)(bm n:Nat)(f:Nat->UInt8):Prop:=∃bp q,fy U w bm bp n q f
theorem fy.only{f:Nat->UInt8}(h:fy U w bm bp n q f)(a:H S w w')(c:∀k,S k->k<w.heap.size->U k):fy U w' bm bp n q f:=by
 have hk:∀b o,w.heap[b]?=some o->¬U b->w'.heap[b]?=some o:=λb o hb hu=>by
  rwa[a.block b (aB hb) (λs=>hu (c b s (aB hb)))]
 exact⟨h.pos,h.top,hk _ _ h.m h.um,hk _ _ h.p h.up,h.nil,λi hi b hb=>hk _ _ (h.pg i hi b hb) (h.ug i b hi hb),h.inj,h.um,h.up,h.ug,λk hu=>Nat.lt_of_lt_of_le (h.low k hu) a.size⟩
theorem cP.only{f:Nat->UInt8}(h:cP U w bm n f)(a:H S w w')(b:∀k,S k->k<w.heap.size->U k):cP U w' bm n f:=by
 have⟨bp,q,h⟩:=h;exact⟨bp,q,h.only a b⟩
theorem fy.ne{f:Nat->UInt8}(h:fy U w bm bp n q f):bm≠bp:=by
 intro e;have a:=h.p;rw[<-e,h.m] at a;simp at a
theorem fy.WE{f:Nat->UInt8}(h:fy U w bm bp n q f)(hi:i<n)(c:q i=some b):b≠bm/\b≠bp:=by
 have a:=h.pg i hi b c;refine⟨λe=>?_,λe=>?_⟩
 ·have h1:=h.m;rw[<-e,a] at h1;simp at h1
 have h1:=h.p;rw[<-e,a] at h1;simp at h1
theorem fy.cm{f:Nat->UInt8}(h:fy U w bm bp n q f):w.cell? (E bm 0)=some (Zs bp n n):=by
 rw[cell_of_row _ _ 0 _ _ (0,0) h.m];rfl
theorem fy.cp{f:Nat->UInt8}(h:fy U w bm bp n q f)(hi:i<n):w.cell? (E bp i)=some (Fy (q i)):=by
 rw[cell_of_row _ _ i _ _ (0,0) h.p];simpa using NS q n i hi
theorem fy.cg{f:Nat->UInt8}(h:fy U w bm bp n q f)(hi:i<n)(a:q i=some b){j:Nat}(c:j<4096):w.cell? (E b j)=some (gZ (f (4096*i+j))):=by
 rw[cell_of_row _ _ j _ _ (0,0) (h.pg i hi b a)];simpa using Cr f (4096*i) 4096 j c
def rB(n:Nat)(a k:Int):Bool:=decide (0<=a)&&decide (a<=(n:Int)*4096)&&decide (0<=k)&&decide (k<=(n:Int)*4096 - a)
theorem M7{f:Nat->UInt8}(h:cP U w bm n f)(a k):
  Zk 130 #[M bm,O a,O k] w λe w'=>Zr e (.bool (rB n a k))/\w'=w:=by
 have⟨bp,q,h⟩:=h;have g:=h.cm;have i:IntKind.i64.wrap ((n:Int)*4096)=(n:Int)*4096:=by have:=h.top;rw[IntKind.wrap_i64];omega
 have j:(n:Int)<=256:=by have:=h.top;omega
 have c:Hid (rB n a k=(decide (0<=a)&&decide (a<=(n:Int)*4096)&&decide (0<=k)&&decide (k<=(n:Int)*4096 - a))):=rfl;have d:0<=a->a<=(n:Int)*4096->IntKind.i64.wrap ((n:Int)*4096 - a)=(n:Int)*4096 - a:=λh1 l=>by rw[IntKind.wrap_i64];omega
 generalize rB n a k=b at c;by_cases c1:0<=a
 ·by_cases c2:a<=(n:Int)*4096
  ·by_cases c3:0<=k
   ·have m:=d c1 c2;go_enter func130,ntmps130;go_wp2;all_goals
     go_ret;refine⟨?_,rfl⟩;rw[c.j];refine Bi (congrArg Value.bool ?_);rw[Bool.eq_iff_iff];simp[c1,c2,c3];try omega
   go_enter func130,ntmps130;go_wp2;all_goals
    go_ret;refine⟨?_,rfl⟩;rw[c.j,show decide (0<=k)=false from decide_eq_false Z];simp
  go_enter func130,ntmps130;go_wp2;all_goals
   go_ret;refine⟨?_,rfl⟩;rw[c.j,show decide (a<=(n:Int)*4096)=false from decide_eq_false Z];simp
 go_enter func130,ntmps130;go_wp2;all_goals
  go_ret;refine⟨?_,rfl⟩;rw[c.j,show decide (0<=a)=false from decide_eq_false Z];simp
theorem PL(x:Nat)(a:x<=1048576)(w):
  Zk 131 #[O (x:Int)] w λe w'=>Zr e (.tuple #[O ((x/4096:Nat):Int),O ((x % 4096:Nat):Int)])/\w'=w:=by
 have h1:Int.tdiv (x:Int) 4096=((x/4096:Nat):Int):=by rw[Int.tdiv_eq_ediv_of_nonneg Z];omega
 have b:Int.tmod (x:Int) 4096=((x % 4096:Nat):Int):=by rw[Int.tmod_eq_emod_of_nonneg Z];omega
 have c:=Zh ((x/4096:Nat):Int) Z;have d:=Zh ((x % 4096:Nat):Int) Z;generalize hp:x/4096=p at*;generalize f:x % 4096=o at*;go_enter func131,ntmps131;go_wp2;all_goals
  go_ret2;exact⟨rfl,rfl⟩
end Go.Proofs.YtdjlkahbpdoemaaGreatDoor

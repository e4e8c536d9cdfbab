import Derived.Test.YtphkconoooeidaaGreatDoorCp3
import Derived.Test.YtphkconoooeidaaGreatDoorProg
import Derived.Ground.GgzProg
import Derived.Ground.SlgmProg
import Derived.Ground.SlsfProg
import Derived.Shelf.SlGeneric
import Derived.Shelf.SlIterI.Nil
import Derived.Shelf.SlSortCmp.NoneTotal
import Derived.Shelf.Small.Bits
import Derived.Shelf.SortM.Plain
import Derived.Shelf.SortM.SortNone
import Derived.Shelf.Strconv.Itoa0
set_option maxRecDepth 100000
set_option maxHeartbeats 8000000
set_option linter.unusedVariables false
set_option linter.unusedSimpArgs false
open Go Go.Vx Go.Proofs.Tryz Go.ChangeShapes Go.WideShapes Go.ChangeAt Go.RowKit
namespace Go.Proofs.YtphkconoooeidaaGreatDoor
def Ji (f:Nat->UInt8) (p q:Nat):Bool:=(List.range 4096).all λj=>f (4096*p+j)==f (4096*q+j)
structure cR (w:World) (br bb n:Nat) (f:Nat->UInt8):Prop where
 pos:1<=n
 top:n<=256
 r:w.heap[br]?=some (.cells #[Zs bb (4096*n) (4096*n)] 136 (0,0))
 b:w.heap[bb]?=some (.cells (eZ f 0 (4096*n)).toArray 5 (0,0))
theorem cR.only {S:Nat->Prop} {w w':World} {br bb n:Nat} {f:Nat->UInt8} (h:cR w br bb n f) (ho:ae S w w') (h1:¬S br) (h2:¬S bb):cR w' br bb n f:=
 ⟨h.pos,h.top,by rw[ho.block br (au h.r) h1];exact h.r,by rw[ho.block bb (au h.b) h2];exact h.b⟩
theorem cR.cr {w:World} {br bb n:Nat} {f:Nat->UInt8} (h:cR w br bb n f):w.cell? ⟨br,0,none⟩=some (Zs bb (4096*n) (4096*n)):=by
 rw[cell_of_row _ _ 0 _ _ (0,0) h.r];rfl
theorem cR.cb {w:World} {br bb n:Nat} {f:Nat->UInt8} (h:cR w br bb n f) {j:Nat} (hj:j<4096*n):w.cell? ⟨bb,j,none⟩=some (ff (f j)):=by
 rw[cell_of_row _ _ j _ _ (0,0) h.b];have:=sC f 0 (4096*n) j hj;rw[Nat.zero_add] at this;simpa using this
theorem cR.ne {w:World} {br bb n:Nat} {f:Nat->UInt8} (h:cR w br bb n f):br≠bb:=by
 intro e;have h1:=h.r;have h2:=h.b;rw[<-e,h1] at h2;simp at h2
theorem cR.fz {w:World} {br bb n:Nat} {f:Nat->UInt8} (h:cR w br bb n f) (j:Nat):w.frozen? ⟨bb,j,none⟩=false:=by
 have h1:=h.b;simp[World.frozen?,h1]
theorem cR.Jf {w:World} {br bb n:Nat} {f:Nat->UInt8} (h:cR w br bb n f) (a:Nat) (v:UInt8) (ha:a<4096*n):
  cR (w.setCell ⟨bb,a,none⟩ (ff v)) br bb n (cU f a [v])/\ae (λk=>k=bb) w (w.setCell ⟨bb,a,none⟩ (ff v)):=by
 have e:w.setCell ⟨bb,a,none⟩ (ff v)=w.setRow bb (eZ (cU f a [v]) 0 (4096*n)).toArray:=by
  have:=Ou f 0 (4096*n) a v ha;rw[Nat.zero_add] at this;rw[setCell_eq_setRow w bb a _ _ _ _ h.b,<-this];simp
 rw[e];refine⟨⟨h.pos,h.top,?_,setRow_heap w bb _ _ _ _ h.b⟩,aaD w bb _⟩;rw[setRow_other w bb br _ h.ne];exact h.r
theorem abi (n:Int) (hn:n<1\/256<n) (w:World):
  Zk 10 #[Zi n] w λe w'=>Zr e (.tuple #[.pointer none,Zi 1])/\w'=w:=by
 by_cases h1:n<1
 ·clear hn;go_enter func10,ntmps10
  go_wp2
  all_goals
   go_ret2;exact⟨rfl,rfl⟩
 ·have h2:256<n:=Zo;clear hn;go_enter func10,ntmps10
  go_wp2
  all_goals
   go_ret2;exact⟨rfl,rfl⟩
theorem abh (n:Nat) (h1:1<=n) (h2:n<=256) (w:World):
  Zk 10 #[Zi (n:Int)] w λe w'=>Zr e (.tuple #[.pointer (some ⟨w.heap.size+1,0,none⟩),Zi 0])/\cR w' (w.heap.size+1) w.heap.size n (λ_=>0)/\
   ∃o1 o2,w'=(w.alloc o1).alloc o2:=by
 obtain⟨N,hN⟩:=Ze (4096*n);have ja:=P7 N Zo w;have c1:¬(n:Int)<1:=Zo;have c2:¬256<(n:Int):=Zo;have ag:IntKind.i64.wrap (4096*(n:Int))=(N:Int):=by rw[IntKind.wrap_i64];omega
 have oH:Hid (1<=n/\n<=256/\N=4096*n):=⟨h1,h2,hN⟩
 clear h1 h2 hN;go_enter func10,ntmps10
 go_wp2
 all_goals
  go_ret2;refine⟨rfl,⟨oH.j.1,oH.j.2.1,?_,?_⟩,_,_,rfl⟩
  ·have:=heap_alloc_last (w.alloc (.cells (eZ (λ_=>0) 0 N).toArray 5)) (.cells #[Zs w.heap.size N N] 136);rw[<-oH.j.2.2];simpa using this
  ·rw[RowKit.Below.heap_alloc _ _ _ (by simp),<-oH.j.2.2];exact heap_alloc_last _ _
theorem GB {w:World} {br bb n:Nat} {f:Nat->UInt8} (h:cR w br bb n f) (a k:Int) (hk:k<=9223372036854775807):
  Zk 60 #[Zp br,Zi a,Zi k] w λe w'=>Zr e (.bool (eQ n a k))/\w'=w:=by
 have tL:=h.cr;have hn:=h.top;obtain⟨N,hN⟩:=Ze (4096*n);rw[<-hN] at tL
 have HT:Hid (eQ n a k=(decide (0<=a)&&decide (a<=(N:Int))&&decide (0<=k)&&decide (k<=(N:Int) - a))):=by
  show eQ n a k=_;unfold eQ;rw[show(n:Int)*4096=(N:Int) from Zo]
 have yK:(N:Int)<=1048576:=Zo;clear h hN hn;by_cases c0:0<=k
 ·have ag:=Zh ((N:Int) - k) Zo;have d0:decide (0<=k)=true:=decide_eq_true c0;by_cases c1:0<=a
  ·have d1:decide (0<=a)=true:=decide_eq_true c1;by_cases c2:k<=(N:Int)
   ·have d2:decide (k<=(N:Int))=true:=decide_eq_true c2
    have HB:Hid (eQ n a k=decide (a<=(N:Int) - k)):=by
     show eQ n a k=_;rw[HT.j,d0,d1,Bool.eq_iff_iff];simp;omega
    go_enter func60,ntmps60;go_wp2_with fail
    all_goals
     go_ret;rw[HB.j];refine⟨?_,rfl⟩
     first|rfl|simp
   ·have d2:decide (k<=(N:Int))=false:=decide_eq_false c2
    have HB:Hid (eQ n a k=false):=by
     show eQ n a k=_;rw[HT.j,show decide (k<=(N:Int) - a)=false from decide_eq_false Zo,Bool.and_false]
    go_enter func60,ntmps60;go_wp2_with fail
    all_goals
     go_ret;rw[HB.j];exact⟨rfl,rfl⟩
  ·have d1:decide (0<=a)=false:=decide_eq_false c1
   have HB:Hid (eQ n a k=false):=by
    show eQ n a k=_;rw[HT.j,d1];rfl
   go_enter func60,ntmps60;go_wp2_with fail
   all_goals
    go_ret;rw[HB.j];exact⟨rfl,rfl⟩
 ·have d0:decide (0<=k)=false:=decide_eq_false c0
  have HB:Hid (eQ n a k=false):=by
   show eQ n a k=_;rw[HT.j,d0,Bool.and_false,Bool.false_and]
  go_enter func60,ntmps60;go_wp2_with fail
  all_goals
   go_ret;rw[HB.j];exact⟨rfl,rfl⟩
def xf (w:World) (br bb n:Nat) (f:Nat->UInt8) (a:Nat) (s:List UInt8) (k:Nat) (wr:World):Prop:=cR wr br bb n (cU f a (s.take k))/\ae (λk=>k=bb) w wr
theorem OF {w wr:World} {br bb n:Nat} {f:Nat->UInt8} {a:Nat} {s:List UInt8} {k:Nat} (h:xf w br bb n f a s k wr) (hk:k<s.length) (dI:a+s.length<=4096*n):
  wr.cell? ⟨br,0,none⟩=some (Zs bb (4096*n) (4096*n))/\(∃v,wr.cell? ⟨bb,a+k,none⟩=some v)/\wr.frozen? ⟨bb,a+k,none⟩=false/\xf w br bb n f a s (k+1) (wr.setCell ⟨bb,a+k,none⟩ (.int .u8 (s[k].toNat:Int))):=by
 obtain⟨hr,ho⟩:=h;obtain⟨h1,h2⟩:=hr.Jf (a+k) s[k] Zo;refine⟨hr.cr,⟨_,hr.cb Zo⟩,hr.fz _,?_,ho.trans h2⟩;rw[Pe f a k s hk] at h1;exact h1
theorem xf.drew {w:World} {br bb n:Nat} {f:Nat->UInt8} {a:Nat} {s:List UInt8} {k:Nat} {wr:World} (h:xf w br bb n f a s k wr):xf w br bb n f a s k wr.drew:=⟨h.1.only ((ae.refl (λ_=>False) wr).drew) (λh=>h) (λh=>h),h.2.drew⟩
theorem adL (p:ByteArray) (l:List UInt8) (k:Nat) (hp:p=⟨l.toArray⟩) (hk:k<l.length) (wv:World):
  (Instr.index 9 (.string p) (Zi (k:Int))).run prog wv=.ok (.int .u8 ((l[k].toNat:Nat):Int)) wv:=by
 subst hp;have hs:(ByteArray.mk l.toArray).size=l.length:=by simp[ByteArray.size]
 rw[run_index_string wv 9 _ .i64 (k:Int) underlying9,dif_pos Zo];simp only[Int.toNat_natCast];rfl
theorem OV {w:World} {br bb n:Nat} {f:Nat->UInt8} (h:cR w br bb n f) (a:Nat) (s:List UInt8) (dI:a+s.length<=4096*n):
  Zk 15 #[Zp br,Zi (a:Int),.string ⟨s.toArray⟩] w λe w'=>Zr e (Zi 0)/\cR w' br bb n (cU f a s)/\ae (λk=>k=bb) w w':=by
 obtain⟨p,hp⟩:∃p:ByteArray,p=⟨s.toArray⟩:=⟨_,rfl⟩
 rw[<-hp];have DD:p.size=s.length:=by rw[hp];simp[ByteArray.size]
 have hn:=h.top;have HI:=aa (GB h (a:Int) (s.length:Nat) Zo);have e1:eQ n (a:Int) (s.length:Nat)=true:=by simp[eQ];omega
 rw[e1] at HI;have HP:=aa hp;have jZ:Hid (a+s.length<=4096*n/\n<=256):=⟨dI,hn⟩
 have H0:Hid (xf w br bb n f a s 0 w):=⟨by rw[List.take_zero,CV];exact h,ae.refl _ _⟩
 clear h hp dI hn e1;go_enter func15,ntmps15;go_wp2_with fail;refine HI.j.e1 ?_;go_wp2_with fail
 go_loopw [8] (λd wr=>∃k:Nat,d=Zi (k:Int)/\k<=s.length/\Hid (xf w br bb n f a s k wr)) (λd _=>s.length - (RowKit.intOf d).toNat)
 case atStart=>exact⟨0,rfl,Zo,H0⟩
 case round=>
  obtain⟨k,rfl,hk,HW⟩:=hrel;by_cases ah:k<s.length
  ·have h1:(k:Int)<(s.length:Int):=Zo;obtain⟨ew,⟨v,bH⟩,hf,hs⟩:=OF HW.j.drew ah jZ.j.1;have G8:=λwv=>adL p s k HP.j ah wv
   have HS:=aa hs;have ag:IntKind.i64.wrap ((a+k:Nat):Int)=((a+k:Nat):Int):=by have:=jZ.j;rw[IntKind.wrap_i64];omega
   obtain⟨N,hN⟩:=Ze (4096*n);rw[<-hN] at ew;have vd:0<=((a+k:Nat):Int)/\((a+k:Nat):Int)<(N:Int):=by have:=jZ.j;omega
   generalize s[k]=sk at G8 HS;generalize hx:a+k=x at ag vd bH hf HS;have oQ:(a:Int)+(k:Int)=(x:Int):=Zo;have v8:IntKind.i64.wrap ((k:Int)+1)=(k:Int)+1:=by have:=jZ.j;rw[IntKind.wrap_i64];omega
   clear hx ah hs hN;go_wp2_with fail
   go_region
   all_goals
    go_wp2_with fail;go_roundw
    case rel=>exact⟨k+1,by go_num,Zo,HS⟩
    case measure=>exact Zm
  ·obtain rfl:k=s.length:=Zo;have h1:¬(s.length:Int)<(s.length:Int):=Zo;clear ah;go_wp2_with fail
   all_goals
    go_ret;obtain⟨hr,ho⟩:=HW.j;rw[List.take_length] at hr;exact⟨rfl,hr,ho⟩
theorem YS {w:World} {br bb n:Nat} {f:Nat->UInt8} (h:cR w br bb n f) (a:Int) (s:List UInt8) (hs:s.length<=9223372036854775807):
  Zk 15 #[Zp br,Zi a,.string ⟨s.toArray⟩] w λe w'=>Zr e (Zi ((oJ f n a s).2:Nat))/\cR w' br bb n (oJ f n a s).1/\ae (λk=>k=bb) w w':=by
 unfold oJ;by_cases hi:eQ n a (s.length:Nat)=true
 ·obtain⟨x,y,rfl,hy,dI⟩:=GC hi;rw[if_pos hi];exact OV h x s Zo
 ·rw[if_neg hi];obtain⟨p,hp⟩:∃p:ByteArray,p=⟨s.toArray⟩:=⟨_,rfl⟩
  rw[<-hp];have DD:p.size=s.length:=by rw[hp];simp[ByteArray.size]
  have HI:=aa (GB h a (s.length:Nat) Zo);have tJ:eQ n a (s.length:Nat)=false:=by simpa using hi
  rw[tJ] at HI;have HR:=aa h;clear h hi tJ hs hp;go_enter func15,ntmps15;go_wp2_with fail;refine HI.j.e1 ?_;go_wp2_with fail
  all_goals
   go_ret;exact⟨rfl,HR.j,ae.refl _ _⟩
theorem YT {w:World} {br bb n:Nat} {f:Nat->UInt8} (h:cR w br bb n f) (a:Int):
  Zk 148 #[Zp br,Zi a] w λe w'=>Zr e (.tuple #[Zi ((CI f n a).1:Nat),Zi ((CI f n a).2:Nat)])/\Zq w w':=by
 have HI:=aa (GB h a 4 Zd);have tL:=h.cr;have hn:=h.top;obtain⟨N,hN⟩:=Ze (4096*n);rw[<-hN] at tL;unfold CI;by_cases hi:eQ n a 4=true
 ·rw[hi] at HI;by_cases h4:a.tmod 4=0
  ·rw[if_pos ⟨hi,h4⟩];obtain⟨x,y,rfl,hy,dI⟩:=GC hi;simp only[Int.toNat_natCast];have hxN:x+4<=N:=Zo;have c0:=h.cb (j:=x) Zo;have c1:=h.cb (j:=x+1) Zo;have c2:=h.cb (j:=x+2) Zo;have c3:=h.cb (j:=x+3) Zo;have TY:Hid (cD f x=(f x).toNat+256*(f (x+1)).toNat+65536*(f (x+2)).toNat+16777216*(f (x+3)).toNat):=rfl;have l0:((f x).toNat:Int)<256:=by have:=(f x).toNat_lt;omega
   have l1:((f (x+1)).toNat:Int)<256:=by have:=(f (x+1)).toNat_lt;omega
   have l2:((f (x+2)).toNat:Int)<256:=by have:=(f (x+2)).toNat_lt;omega
   have l3:((f (x+3)).toNat:Int)<256:=by have:=(f (x+3)).toNat_lt;omega
   unfold ff at c0 c1 c2 c3;generalize cD f x=WF at TY;generalize (f x).toNat=b0 at*;generalize (f (x+1)).toNat=b1 at*;generalize (f (x+2)).toNat=b2 at*;generalize (f (x+3)).toNat=b3 at*;have i0:0<=(x:Int)/\(x:Int)<(N:Int):=Zo;have i1:0<=(x:Int)+1/\(x:Int)+1<(N:Int):=Zo;have i2:0<=(x:Int)+2/\(x:Int)+2<(N:Int):=Zo;have i3:0<=(x:Int)+3/\(x:Int)+3<(N:Int):=Zo;have j1:(x:Int)+1<(N:Int):=Zo;have j2:(x:Int)+2<(N:Int):=Zo;have j3:(x:Int)+3<(N:Int):=Zo;have j0:(x:Int)<(N:Int):=Zo;have t1:((x:Int)+1).toNat=x+1:=Zo;have t2:((x:Int)+2).toNat=x+2:=Zo;have t3:((x:Int)+3).toNat=x+3:=Zo;have yK:(N:Int)<=1048576:=Zo;clear h hi dI hy hn hN hxN;go_enter func148,ntmps148;go_wp2_with fail;refine HI.j.e1 ?_;go_wp2_with fail;go_quiet (fail);go_wp2_with fail;go_ret2;rw[TY.j];refine⟨?_,(ae.refl _ w).drewN nq⟩;have e:((b0+256*b1+65536*b2+16777216*b3:Nat):Int)=(b0:Int)+256*(b1:Int)+65536*(b2:Int)+16777216*(b3:Int):=Zo;rw[e];rfl
  ·rw[if_neg (λhh=>h4 hh.2)];have h4':¬a.tmod 4=0:=h4;clear h hi hn hN;go_enter func148,ntmps148;go_wp2_with fail;refine HI.j.e1 ?_;go_wp2_with fail
   all_goals
    go_ret2;exact⟨rfl,ae.refl _ _⟩
 ·rw[if_neg (λhh=>hi hh.1)];have tJ:eQ n a 4=false:=by simpa using hi
  rw[tJ] at HI;clear h hi tJ hn hN;go_enter func148,ntmps148;go_wp2_with fail;refine HI.j.e1 ?_;go_wp2_with fail
  all_goals
   go_ret2;exact⟨rfl,ae.refl _ _⟩
theorem Y2 (x:Nat) (hx:x<4294967296) (w:World):
  Zk 207 #[Zi (x:Int)] w λe w'=>Zr e (.string ⟨(fJ x).toArray⟩)/\Zq w w':=by
 obtain⟨c0,e0⟩:∃c,c=x % 256:=⟨_,rfl⟩
 obtain⟨c1,e1⟩:∃c,c=x/256 % 256:=⟨_,rfl⟩
 obtain⟨c2,e2⟩:∃c,c=x/65536 % 256:=⟨_,rfl⟩
 obtain⟨c3,e3⟩:∃c,c=x/16777216 % 256:=⟨_,rfl⟩
 have v0:(x:Int) % 256=(c0:Int):=Zo;have v1:(x:Int)/256 % 256=(c1:Int):=Zo;have v2:(x:Int)/65536 % 256=(c2:Int):=Zo;have v3:(x:Int)/16777216 % 256=(c3:Int):=Zo;have u0:(c0:Int) % 256=(c0:Int):=Zo;have u1:(c1:Int) % 256=(c1:Int):=Zo;have u2:(c2:Int) % 256=(c2:Int):=Zo;have u3:(c3:Int) % 256=(c3:Int):=Zo;have t0:Int.tmod (x:Int) 256=(c0:Int):=by rw[Int.tmod_eq_emod_of_nonneg Zo];omega
 have t1:Int.tmod (Int.tdiv (x:Int) 256) 256=(c1:Int):=by rw[Int.tdiv_eq_ediv_of_nonneg Zo,Int.tmod_eq_emod_of_nonneg Zo];omega
 have t2:Int.tmod (Int.tdiv (x:Int) 65536) 256=(c2:Int):=by rw[Int.tdiv_eq_ediv_of_nonneg Zo,Int.tmod_eq_emod_of_nonneg Zo];omega
 have t3:Int.tmod (Int.tdiv (x:Int) 16777216) 256=(c3:Int):=by rw[Int.tdiv_eq_ediv_of_nonneg Zo,Int.tmod_eq_emod_of_nonneg Zo];omega
 have Lt:=λwv:World=>run_convert_bytes_back (P:=prog) (wv.alloc (.cells #[.int .u8 (c0:Int),.int .u8 (c1:Int),.int .u8 (c2:Int),.int .u8 (c3:Int)] 5)) 134 9 5 ⟨wv.heap.size,0,none⟩ 4 (fJ x) underlying134 underlying5 underlying9 (λj hj=>by
  have hj4:j<4:=hj;rw[pY,Nat.zero_add,cell_of_row _ _ j _ _ (0,0) (heap_alloc_last wv _)];have du:j=0\/j=1\/j=2\/j=3:=Zo;rcases du with rfl|rfl|rfl|rfl
  ·show some (Value.int .u8 (c0:Int))=some (.int .u8 ((UInt8.ofNat (x % 256)).toNat:Int));rw[yU,<-e0]
  ·show some (Value.int .u8 (c1:Int))=some (.int .u8 ((UInt8.ofNat (x/256 % 256)).toNat:Int));rw[yU,<-e1]
  ·show some (Value.int .u8 (c2:Int))=some (.int .u8 ((UInt8.ofNat (x/65536 % 256)).toNat:Int));rw[yU,<-e2]
  ·show some (Value.int .u8 (c3:Int))=some (.int .u8 ((UInt8.ofNat (x/16777216 % 256)).toNat:Int));rw[yU,<-e3])
 have om:(fJ x).length=4:=rfl;have aet:(convert 134 9 (Zs w.heap.size 4 4)).run prog (w.alloc (.cells #[.int .u8 (c0:Int),.int .u8 (c1:Int),.int .u8 (c2:Int),.int .u8 (c3:Int)] 5))=.ok (.string ⟨(fJ x).toArray⟩) (w.alloc (.cells #[.int .u8 (c0:Int),.int .u8 (c1:Int),.int .u8 (c2:Int),.int .u8 (c3:Int)] 5)):=Lt w;generalize (fJ x).toArray=fx at aet;have bQ:(x:Int)<4294967296:=Zo;clear Lt om e0 e1 e2 e3 hx;go_enter func207,ntmps207;go_wp2_with fail
 all_goals
  go_ret;exact⟨rfl,(ae.refl _ w).alloc _⟩
theorem YW {w:World} {br bb n:Nat} {f:Nat->UInt8} (h:cR w br bb n f) (a:Int) (x:Nat) (hx:x<4294967296):
  Zk 177 #[Zp br,Zi a,Zi (x:Int)] w λe w'=>Zr e (Zi ((CR f n a x).2:Nat))/\cR w' br bb n (CR f n a x).1/\ae (λk=>k=bb) w w':=by
 have HI:=aa (GB h a 4 Zd);have HR:=aa h;unfold CR;by_cases hi:eQ n a 4=true
 ·rw[hi] at HI;by_cases h4:a.tmod 4=0
  ·rw[if_pos ⟨hi,h4⟩];obtain⟨y,z,rfl,hz,dI⟩:=GC hi;simp only[Int.toNat_natCast];have UD:=aa (Y2 x hx w)
   have TX:Hid (∀wv,Zq w wv->Zk 15 #[Zp br,Zi (y:Int),.string ⟨(fJ x).toArray⟩] wv λe w'=>Zr e (Zi 0)/\Hid (cR w' br bb n (cU f y (fJ x))/\ae (λk=>k=bb) w w')):=λwv hv=>by
    refine(OV (h.only hv (λh=>h) (λh=>h)) y (fJ x) (by have:(fJ x).length=4:=rfl;omega)).m ?_;rintro e w' ⟨rfl,h1,h2⟩;exact⟨rfl,h1,(hv.f).trans h2⟩
   generalize (fJ x).toArray=fx at UD TX;clear h hi dI hz hx;go_enter func177,ntmps177;go_wp2_with fail;refine HI.j.e1 ?_;go_wp2_with fail;refine UD.j.m ?_;rintro e w2 ⟨rfl,aC⟩;have aL:=aa aC;clear aC;go_wp2_with fail;refine(TX.j w2 aL.j).m ?_;rintro e w3 ⟨rfl,H3⟩;go_wp2_with fail
   all_goals
    go_ret;exact⟨rfl,H3.j⟩
  ·rw[if_neg (λhh=>h4 hh.2)];clear h hi;go_enter func177,ntmps177;go_wp2_with fail;refine HI.j.e1 ?_;go_wp2_with fail
   all_goals
    go_ret;exact⟨rfl,HR.j,ae.refl _ _⟩
 ·rw[if_neg (λhh=>hi hh.1)];have tJ:eQ n a 4=false:=by simpa using hi
  rw[tJ] at HI;clear h hi tJ;go_enter func177,ntmps177;go_wp2_with fail;refine HI.j.e1 ?_;go_wp2_with fail
  all_goals
   go_ret;exact⟨rfl,HR.j,ae.refl _ _⟩
theorem ab7 (M k:Nat) (h:k<(kX M).length):(kX M)[k]=0:=
 List.eq_of_mem_replicate (show(kX M)[k]∈List.replicate M 0 from List.getElem_mem h)
theorem YR {w:World} {br bb n:Nat} {f:Nat->UInt8} (h:cR w br bb n f) (p:Int):
  Zk 114 #[Zp br,Zi p] w λe w'=>Zr e (Zi ((j5 f n p).2:Nat))/\cR w' br bb n (j5 f n p).1/\ae (λk=>k=bb) w w':=by
 have tL:=h.cr;have hn:=h.top;obtain⟨N,hN⟩:=Ze (4096*n);rw[<-hN] at tL;have q1:Int.tdiv (N:Int) 4096=(n:Int):=by rw[Int.tdiv_eq_ediv_of_nonneg Zo];omega
 have q2:(N:Int)/4096=(n:Int):=Zo;have q3:=Zh (n:Int) Zo;unfold j5;by_cases h0:p<0
 ·have d0:decide (p<0)=true:=decide_eq_true h0;rw[if_neg (by simp[hasB];omega)];have HR:=aa h;clear h hn hN;go_enter func114,ntmps114;go_wp2_with fail
  all_goals
   go_ret;exact⟨rfl,HR.j,ae.refl _ _⟩
 ·have d0:decide (p<0)=false:=decide_eq_false h0;by_cases h1:(n:Int)<=p
  ·rw[if_neg (by simp[hasB];omega)];have HR:=aa h;clear h hn hN;go_enter func114,ntmps114;go_wp2_with fail
   all_goals
    go_ret;exact⟨rfl,HR.j,ae.refl _ _⟩
  ·obtain⟨x,rfl⟩:∃x:Nat,p=(x:Int):=⟨p.toNat,Zo⟩
   rw[if_pos (by simp[hasB];omega)];simp only[Int.toNat_natCast];obtain⟨M,hM⟩:=Ze (4096);have H0:Hid (xf w br bb n f (4096*x) (kX M) 0 w):=⟨by rw[List.take_zero,CV];exact h,ae.refl _ _⟩
   have HB:Hid (x<n/\n<=256/\N=4096*n/\M=4096):=⟨Zo,hn,hN,hM⟩
   have SP:¬(n:Int)<=(x:Int):=h1;have ag:=Zh (4096*(x:Int)) Zo;clear h hn hN hM h1;go_enter func114,ntmps114;go_wp2_with fail
   go_loopw [5] (λd wr=>∃k:Nat,d=Zi (k:Int)/\k<=4096/\Hid (xf w br bb n f (4096*x) (kX M) k wr)) (λd _=>4096 - (RowKit.intOf d).toNat)
   case atStart=>exact⟨0,rfl,Zo,H0⟩
   case round=>
    obtain⟨k,rfl,hk,HW⟩:=hrel;by_cases ah:k<4096
    ·have h2:(k:Int)<4096:=Zo;have dE:k<(kX M).length:=by rw[zX];have:=HB.j;omega
     obtain⟨ew,⟨v,bH⟩,hf,hs⟩:=OF HW.j dE (by rw[zX];have:=HB.j;omega);rw[ab7] at hs;have HS:=aa hs;rw[<-HB.j.2.2.1] at ew;have vd:0<=((4096*x+k:Nat):Int)/\((4096*x+k:Nat):Int)<(N:Int):=by have:=HB.j;omega
     have aT:IntKind.i64.wrap ((4096*x+k:Nat):Int)=((4096*x+k:Nat):Int):=by have:=HB.j;rw[IntKind.wrap_i64];omega
     have oQ:4096*(x:Int)+(k:Int)=((4096*x+k:Nat):Int):=Zo;have v8:=Zf k Zo;generalize 4096*x+k=y at vd aT oQ bH hf HS;clear hs ah dE;go_wp2_with fail;go_roundw
     case rel=>exact⟨k+1,by go_num,Zo,HS⟩
     case measure=>exact Zm
    ·have h2:¬(k:Int)<4096:=Zo;have HK:Hid (k=4096):=by show k=4096;omega
     clear ah hk;go_wp2_with fail
     all_goals
      go_ret;obtain⟨h5,h6⟩:=HW.j;rw[HK.j] at h5
      have e:cU f (4096*x) ((kX M).take 4096)=vE f x:=by
       rw[List.take_of_length_le (by rw[zX];have:=HB.j;omega)];exact NC f x M HB.j.2.2.2
      rw[e] at h5;exact⟨rfl,h5,h6⟩
def agv (f:Nat->UInt8) (n:Nat) (p q:Int):Bool×Nat:=if (hasB n p&&hasB n q)=true then (Ji f p.toNat q.toNat,0) else (false,1)
end Go.Proofs.YtphkconoooeidaaGreatDoor
namespace Go.Vx
section
variable {P:Program} {ops:Array Oper} {Q Q':Exit->Act->World->Prop} {md:Region.Mode}
def tc (n:Nat) (o:Oper):Oper:={o with dst:=none,guard:=some (n,true)}
def mh (ops:Array Oper) (L:Nat) (o:Oper):Array Oper:=ops.setIfInBounds L (tc ops.size o)
theorem V0 {o:Oper} {a:Act} {w:World} {K:Act->World->Prop} (hp:∀c a w,Q' (.panic c) a w->Q (.panic c) a w) (ho:∀a w,Q' .outgrown a w->Q .outgrown a w) (h:Oper.wp P o a w K Q'):Oper.wp P o a w K Q:=by
 have hl:LetsOut Q'->LetsOut Q:=λ⟨a,w,h⟩=>⟨a,w,ho a w h⟩
 unfold Oper.wp at h|-;generalize (execOp a.eval o).run P w=r at h|-
 cases r with
 |ok n w'=>
  cases n<;>simp only[Oper.upon] at h|-<;>first|exact h|skip
  all_goals
   refine Calls.mono h (λe w'' he=>?_)
   cases e with
   |returned u=>exact he
   |panicked c=>exact hp _ _ _ he
   |outgrown=>exact hl he
 |halt x w'=>
  cases x<;>simp only[Oper.upon] at h|-<;>first|exact h|exact hp _ _ _ h
theorem Ju {L:Nat} {oL:Oper} (hL:ops[L]?=some oL) (listed:Array Bool):Region.ready md (mh ops L oL) listed=Region.ready md ops listed:=by
 have ah:L<ops.size:=(Array.getElem?_eq_some_iff.1 hL).1;unfold Region.ready mh;rw[Array.size_setIfInBounds];congr 1
 funext j
 rw[Array.getElem?_setIfInBounds];by_cases h:L=j
 ·subst h;rw[if_pos rfl,if_pos ah,hL];rfl
 ·rw[if_neg h]
theorem aaS {L:Nat} {oL:Oper} {j:Nat} (h:L≠j):(mh ops L oL)[j]?=ops[j]?:=by
 unfold mh;rw[Array.getElem?_setIfInBounds,if_neg h]
theorem F4 (hT:∀(j:Nat) (o:Oper),ops[j]?=some o->∀e∈o.after,e.on<j) (listed:Array Bool):∀(n L:Nat),L<=n->L<ops.size->listed.size=ops.size->listed.getD L true=false->Region.ready md ops listed≠[]:=by
 intro n
 induction n using Nat.strongRecOn with
 |ind n ih=>
  intro L hLn AR aR BO;by_cases hr:L∈Region.ready md ops listed
  ·intro e;rw[e] at hr;cases hr
  ·rw[mem_ready] at hr;have ho:ops[L]?=some ops[L]:=Array.getElem?_eq_getElem AR
   have hex:∃e∈ops[L].after,Region.binds md e=true/\¬listed.getD e.on false=true:=by
    apply Classical.byContradiction;intro eH;refine hr ⟨BO,ops[L],ho,λe he hb=>?_⟩;apply Classical.byContradiction;intro h9;exact eH ⟨e,he,hb,h9⟩
   obtain⟨e,he,_,cu⟩:=hex;have ah:=hT L _ ho e he;refine ih e.on Zo e.on (Nat.le_refl _) Zo aR ?_;have hes:e.on<listed.size:=Zo;simp only[Array.getD_eq_getD_getElem?,Array.getElem?_eq_getElem hes,Option.getD_some] at cu|-;simpa using cu
def Fq (md:Region.Mode) (ops:Array Oper) (listed:Array Bool):Prop:=∀(k:Nat) (o:Oper),ops[k]?=some o->listed.getD k false=true->∀e∈o.after,Region.binds md e=true->listed.getD e.on false=true
theorem Fq.step {listed:Array Bool} (h:Fq md ops listed) {i:Nat} (hi:i∈Region.ready md ops listed):Fq md ops (listed.setIfInBounds i true):=λk o ho hk e he hb=>by
 by_cases RW:i=k
 ·subst RW;obtain⟨_,o9,aO,vf⟩:=mem_ready.1 hi;rw[ho] at aO;injection aO with aO
  subst aO;exact getD_set_true (vf e he hb)
 ·rw[getD_set_ne false RW] at hk;exact getD_set_true (h k o ho hk e he hb)
theorem afR {L:Nat} {oL:Oper} {listed:Array Bool} (hL:ops[L]?=some oL) (hd:Fq md ops listed) (hw:∀j,j<ops.size->j≠L->∃(k:Nat) (o:Oper),j<k/\ops[k]?=some o/\∃e∈o.after,Region.binds md e=true/\e.on=j) (hr:L∈Region.ready md ops listed):
  ∀(n j:Nat),ops.size - j<=n->j<ops.size->j≠L->listed.getD j false=true:=by
 intro n
 induction n with
 |zero=>intro j h1 h2 _;omega
 |succ n ih=>
  intro j h1 h2 h3;obtain⟨k,o,K8,ho,e,he,hb,Sa⟩:=hw j h2 h3;have tH:k<ops.size:=(Array.getElem?_eq_some_iff.1 ho).1;by_cases RT:k=L
  ·subst RT;obtain⟨_,o9,aO,vf⟩:=mem_ready.1 hr;rw[ho] at aO;injection aO with aO
   subst aO;have:=vf e he hb
   rwa[Sa] at this
  ·have:=hd k o ho (ih k Zo tH RT) e he hb
   rwa[Sa] at this
theorem Wd {L:Nat} {oL:Oper} (hL:ops[L]?=some oL) (hg:oL.guard=none) (hG:∀(j:Nat) (o:Oper),ops[j]?=some o->o.guard=none) (hT:∀(j:Nat) (o:Oper),ops[j]?=some o->∀e∈o.after,e.on<j)
  (hw:∀j,j<ops.size->j≠L->∃(k:Nat) (o:Oper),j<k/\ops[k]?=some o/\∃e∈o.after,Region.binds md e=true/\e.on=j)
  (hn:∀a w,Q' .normal a w->Oper.wp P oL a w (Q .normal) Q) (hp:∀c a w,Q' (.panic c) a w->Q (.panic c) a w) (ho:∀a w,Q' .outgrown a w->Q .outgrown a w):
  ∀(fuel:Nat) (listed:Array Bool) (a:Act) (w:World),listed.size=ops.size->Fq md ops listed->listed.getD L true=false->wpAny P md (mh ops L oL) Q' fuel listed a w->wpAny P md ops Q fuel listed a w:=by
 have AR:L<ops.size:=(Array.getElem?_eq_some_iff.1 hL).1;have hl:LetsOut Q'->LetsOut Q:=λ⟨a,w,h⟩=>⟨a,w,ho a w h⟩
 intro fuel
 induction fuel with
 |zero=>
  intro listed a w aR hd BO h;have h1:=h.1;rw[Ju hL] at h1
  exact absurd h1 (F4 hT listed L L (Nat.le_refl _) AR aR BO)
 |succ fuel ih=>
  intro listed a w aR hd BO h;obtain⟨h0,h1⟩:=h;rw[Ju hL] at h0 h1;refine⟨λe=>absurd e (F4 hT listed L L (Nat.le_refl _) AR aR BO),λi hi=>?_⟩;have h2:=h1 i hi;by_cases Le:L=i
  ·subst Le
   -- all others are listed
   obtain⟨_,o9,aO,vf⟩:=mem_ready.1 hi;have e9:o9=oL:=by rw[hL] at aO;injection aO with h;exact h.symm
   subst e9
   have hr:Region.ready md ops (listed.setIfInBounds L true)=[]:=by
    rw[List.eq_nil_iff_forall_not_mem];intro j hj;obtain⟨qF,oj,hoj,_⟩:=mem_ready.1 hj;have hjs:j<ops.size:=(Array.getElem?_eq_some_iff.1 hoj).1;by_cases Lb:j=L
    ·subst Lb;have:j<listed.size:=Zo;simp[this] at qF
    ·have h5:=afR hL hd hw hi (ops.size - j) j (Nat.le_refl _) hjs Lb;rw[getD_set_ne true (λe=>Lb e.symm)] at qF;have:j<listed.size:=Zo;simp[this] at h5 qF;rw[h5] at qF;cases qF
   have h3:wpAny P md (mh ops L o9) Q' fuel (listed.setIfInBounds L true) a w:=by
    have e:(mh ops L o9)[L]?=some (tc ops.size o9):=by
     unfold mh;rw[Array.getElem?_setIfInBounds,if_pos rfl,if_pos AR]
    have ym:Region.wanted (tc ops.size o9) (yielded (mh ops L o9) a.tmps)=false:=by
     unfold tc Region.wanted yielded
     have:(mh ops L o9)[ops.size]?=none:=by
      unfold mh;rw[Array.getElem?_eq_none];simp
     simp[this]
    unfold wpOp at h2;rw[e] at h2;simp only[ym] at h2;exact h2
   have h4:Q' .normal a w:=by
    cases fuel with
    |zero=>exact h3.2
    |succ f=>exact h3.1 (by rw[Ju hL];exact hr)
   unfold wpOp;rw[hL];have ym:Region.wanted o9 (yielded ops a.tmps)=true:=by unfold Region.wanted;rw[hg]
   simp only[ym,if_true];refine Or.inl (Oper.wp_mono (λa' w' hq=>?_) (hn a w h4))
   cases fuel with
   |zero=>exact⟨hr,hq⟩
   |succ f=>exact⟨λ_=>hq,by rw[hr];intro _ h;cases h⟩
  ·unfold wpOp at h2|-;rw[aaS Le] at h2;obtain⟨_,oi,Rt,_⟩:=mem_ready.1 hi;rw[Rt] at h2|-;have ym:∀y,Region.wanted oi y=true:=λy=>by unfold Region.wanted;rw[hG i oi Rt]
   simp only[ym,if_true] at h2|-;refine h2.imp (λh3=>?_) (λ⟨ha,hb⟩=>⟨ha,hl hb⟩);refine V0 hp ho (Oper.wp_mono (λa' w' h5=>?_) h3);exact ih _ a' w' (by rw[Array.size_setIfInBounds];exact aR) (hd.step hi) (by rw[getD_set_ne true (λe=>Le e.symm)];exact BO) h5
def J7 (md:Region.Mode) (ops:Array Oper) (L:Nat):Bool:=
 (List.range ops.size).all λj=>match ops[j]?,ops[L]? with
  |some o,some oL=>o.guard.isNone&&o.after.all (λe=>decide (e.on<j))&&(j==L || (List.range ops.size).any λk=>decide (j<k)&&match ops[k]? with|some ok=>ok.after.any (λe=>Region.binds md e&&e.on==j)|none=>false)
  |_,_=>false
theorem acj {L:Nat} {oL:Oper} (hL:ops[L]?=some oL) (h:J7 md ops L=true):(∀(j:Nat) (o:Oper),ops[j]?=some o->o.guard=none)/\(∀(j:Nat) (o:Oper),ops[j]?=some o->∀e∈o.after,e.on<j)/\∀j,j<ops.size->j≠L->∃(k:Nat) (o:Oper),j<k/\ops[k]?=some o/\∃e∈o.after,Region.binds md e=true/\e.on=j:=by
 unfold J7 at h;rw[List.all_eq_true] at h
 have hx:∀(j:Nat) (o:Oper),ops[j]?=some o->(o.guard.isNone&&o.after.all (λe=>decide (e.on<j))&&(j==L || (List.range ops.size).any λk=>decide (j<k)&&match ops[k]? with|some ok=>ok.after.any (λe=>Region.binds md e&&e.on==j)|none=>false))=true:=λj o ho=>by
  have:=h j (List.mem_range.2 (Array.getElem?_eq_some_iff.1 ho).1);rw[ho,hL] at this;exact this
 refine⟨λj o ho=>?_,λj o ho e he=>?_,λj hj cu=>?_⟩
 ·have:=hx j o ho;simp only[Bool.and_eq_true] at this;simpa using this.1.1
 ·have:=hx j o ho;simp only[Bool.and_eq_true,Array.all_eq_true_iff_forall_mem] at this;simpa using this.1.2 e he
 ·have:=hx j _ (Array.getElem?_eq_getElem hj);simp only[Bool.and_eq_true,Bool.or_eq_true,List.any_eq_true] at this;rcases this.2 with h1|⟨k,hk,h2,h3⟩
  ·exact absurd (by simpa using h1) cu
  ·cases tC:ops[k]? with
   |none=>rw[tC] at h3;cases h3
   |some ok=>
    rw[tC] at h3;simp only[Array.any_eq_true',Bool.and_eq_true] at h3;obtain⟨e,he,h4,h5⟩:=h3;exact⟨k,ok,of_decide_eq_true h2,tC,e,he,h4,by simpa using h5⟩
def vH (P:Program) (oL:Oper) (Q:Exit->Act->World->Prop):Exit->Act->World->Prop
 |.normal,a,w=>Oper.wp P oL a w (Q .normal) Q
 |e,a,w=>Q e a w
theorem zH {S:World->Prop} (L:Nat) {oL:Oper} {id:Nat} {a:Act} {w:World} (hm:P.follows .mixedOrders=true) (hL:ops[L]?=some oL) (hB:J7 .any ops L=true)
  (h:wpAnyH P .any (mh ops L oL) (vH P oL Q) S ops.size (Array.replicate ops.size false) a w.drew):(Code.region id ops true).wp P Q a w:=by
 obtain⟨hG,hT,hw⟩:=acj hL hB;have AR:L<ops.size:=(Array.getElem?_eq_some_iff.1 hL).1;refine wp_region_any hm (Wd hL (hG L oL hL) hG hT hw (Q':=vH P oL Q) (λa w h=>h) (λc a w h=>h) (λa w h=>h) _ _ _ _ (by simp) (λk o ho hk=>by exfalso;have tH:k<ops.size:=(Array.getElem?_eq_some_iff.1 ho).1;simp[tH] at hk) (by simp[AR]) (wpAny_of_held _ _ _ _ h))
theorem qg {P:Program} {ops:Array Oper} {Q:Exit->Act->World->Prop} {S:World->Prop} {id:Nat} {a:Act} {w:World} (hm:P.follows .mixedOrders=true)
  (h:wpAnyH P .any ops Q S ops.size (Array.replicate ops.size false) a w.drew):(Code.region id ops true).wp P Q a w:=wp_region_held hm h
end
end Go.Vx
namespace Go.Proofs.YtphkconoooeidaaGreatDoor
theorem cR.quiet {w w':World} {br bb n:Nat} {f:Nat->UInt8} (h:cR w br bb n f) (ho:Zq w w'):cR w' br bb n f:=h.only ho (λh=>h) (λh=>h)
theorem D3 {w:World} {br bb n:Nat} {f:Nat->UInt8} (h:cR w br bb n f) (a b:Int):
  Zk 176 #[Zp br,Zi a,Zi b] w λe w'=>Zr e (.bool (hasB n a&&hasB n b))/\w'=w:=by
 have tL:=h.cr;have hn:=h.top;obtain⟨N,hN⟩:=Ze (4096*n);rw[<-hN] at tL;have q1:Int.tdiv (N:Int) 4096=(n:Int):=by rw[Int.tdiv_eq_ediv_of_nonneg Zo];omega
 have q2:(N:Int)/4096=(n:Int):=Zo;have q3:=Zh (n:Int) Zo;have HT:Hid ((hasB n a&&hasB n b)=((decide (0<=a)&&decide (a<(n:Int)))&&(decide (0<=b)&&decide (b<(n:Int))))):=rfl;generalize (hasB n a&&hasB n b)=B at HT;clear h hn hN;by_cases c1:0<=a
 ·have b1:decide (0<=a)=true:=decide_eq_true c1;by_cases c2:a<(n:Int)
  ·have b2:decide (a<(n:Int))=true:=decide_eq_true c2;by_cases c3:0<=b
   ·have b3:decide (0<=b)=true:=decide_eq_true c3;by_cases c4:b<(n:Int)
    ·have b4:decide (b<(n:Int))=true:=decide_eq_true c4;have HB:Hid (B=true):=by show _=_;rw[HT.j,b1,b2,b3,b4];rfl
     clear HT;go_enter func176,ntmps176;go_wp2_with fail
     all_goals
      go_ret;rw[HB.j];exact⟨rfl,rfl⟩
    ·have b4:decide (b<(n:Int))=false:=decide_eq_false c4;have HB:Hid (B=false):=by show _=_;rw[HT.j,b1,b2,b3,b4];rfl
     clear HT;go_enter func176,ntmps176;go_wp2_with fail
     all_goals
      go_ret;rw[HB.j];exact⟨rfl,rfl⟩
   ·have b3:decide (0<=b)=false:=decide_eq_false c3;have HB:Hid (B=false):=by show _=_;rw[HT.j,b1,b2,b3];rfl
    clear HT;go_enter func176,ntmps176;go_wp2_with fail
    all_goals
     go_ret;rw[HB.j];exact⟨rfl,rfl⟩
  ·have b2:decide (a<(n:Int))=false:=decide_eq_false c2;have HB:Hid (B=false):=by show _=_;rw[HT.j,b1,b2];rfl
   clear HT;go_enter func176,ntmps176;go_wp2_with fail
   all_goals
    go_ret;rw[HB.j];exact⟨rfl,rfl⟩
 ·have b1:decide (0<=a)=false:=decide_eq_false c1;have HB:Hid (B=false):=by show _=_;rw[HT.j,b1];rfl
  clear HT;go_enter func176,ntmps176;go_wp2_with fail
  all_goals
   go_ret;rw[HB.j];exact⟨rfl,rfl⟩
theorem Qv {n a:Nat} (h:a+4<=4096*n):eQ n (a:Int) 4=true:=by simp[eQ];omega
theorem F3 {w:World} {br bb n:Nat} {f:Nat->UInt8} (h:cR w br bb n f) (a:Nat) (h4:a % 4=0) (dI:a+4<=4096*n):
  Zk 148 #[Zp br,Zi (a:Int)] w λe w'=>Zr e (.tuple #[Zi (cD f a:Nat),Zi 0])/\Zq w w':=by
 refine(YT h (a:Int)).m ?_
 have e:CI f n (a:Int)=(cD f a,0):=by
  unfold CI;rw[if_pos ⟨Qv dI,by rw[Int.tmod_eq_emod_of_nonneg Zo];omega⟩,Int.toNat_natCast]
 rintro x w' ⟨rfl,ho⟩;rw[e];exact⟨rfl,ho⟩
theorem OX {w:World} {br bb n:Nat} {f:Nat->UInt8} (h:cR w br bb n f) (a x:Nat) (hx:x<4294967296) (h4:a % 4=0) (dI:a+4<=4096*n):
  Zk 177 #[Zp br,Zi (a:Int),Zi (x:Int)] w λe w'=>Zr e (Zi 0)/\cR w' br bb n (cU f a (fJ x))/\ae (λk=>k=bb) w w':=by
 refine(YW h (a:Int) x hx).m ?_
 have e:CR f n (a:Int) x=(cU f a (fJ x),0):=by
  unfold CR;rw[if_pos ⟨Qv dI,by rw[Int.tmod_eq_emod_of_nonneg Zo];omega⟩,Int.toNat_natCast]
 rintro y w' ⟨rfl,hr,ho⟩;rw[e] at hr|-;exact⟨rfl,hr,ho⟩
def qZ:Option Nat->Int
 |some _=>0
 |none=>15
theorem OW {w:World} {br bb n:Nat} {f:Nat->UInt8} (h:cR w br bb n f) (root va:Nat) (hr:root<n) (hv:va<4294967296):
  Zk 178 #[Zp br,Zi (root:Int),Zi (va:Int)] w λe w'=>Zr e (.tuple #[Zi (((jO f n root va).getD 0:Nat):Int),Zi (qZ (jO f n root va))])/\Zq w w':=by
 have hn:=h.top;have HR:=aa h;have fP:=aa (F3 h (eD root va) (FN _ _) (Bp hr hv));have eM:=FH f (eD root va);have mO:Hid (jO f n root va=if cD f (eD root va) % 1024=1/\cD f (eD root va)/1024<n then some (cD f (eD root va)/1024) else none):=rfl;generalize jO f n root va=TF at mO;have q0:Int.tdiv (va:Int) 4194304=((va/4194304:Nat):Int):=by rw[Int.tdiv_eq_ediv_of_nonneg Zo];omega
 have iX:(va:Int)/4194304=((va/4194304:Nat):Int):=Zo;have w0:=Zh ((va/4194304:Nat):Int) Zo;have w1:=Zh (4096*(root:Int)) Zo;have w2:IntKind.i64.wrap (((va/4194304:Nat):Int)*4)=((va/4194304:Nat):Int)*4:=by rw[IntKind.wrap_i64];omega
 have w3:4096*(root:Int)+((va/4194304:Nat):Int)*4=((eD root va:Nat):Int):=by unfold eD;omega
 have w4:IntKind.i64.wrap ((eD root va:Nat):Int)=((eD root va:Nat):Int):=by have:=Bp hr hv;rw[IntKind.wrap_i64];omega
 generalize eD root va=P at fP mO eM w3 w4;generalize va/4194304=q at q0 iX w0 w2 w3;generalize cD f P=e at fP mO eM;have t1:Int.tdiv (e:Int) 1024=((e/1024:Nat):Int):=by rw[Int.tdiv_eq_ediv_of_nonneg Zo];omega
 have t2:(e:Int)/1024=((e/1024:Nat):Int):=Zo;have t3:Int.tmod (e:Int) 1024=((e % 1024:Nat):Int):=by rw[Int.tmod_eq_emod_of_nonneg Zo];omega
 have t4:(e:Int) % 1024=((e % 1024:Nat):Int):=Zo;have t5:=Zh ((e/1024:Nat):Int) Zo;have t6:=Zh ((e % 1024:Nat):Int) Zo;obtain⟨N,hN⟩:=Ze (4096*n);have u1:Int.tdiv (N:Int) 4096=(n:Int):=by rw[Int.tdiv_eq_ediv_of_nonneg Zo];omega
 have u2:(N:Int)/4096=(n:Int):=Zo;have u3:=Zh (n:Int) Zo;have HN:=aa hN;by_cases h1:e % 1024=1
 ·have m1:Int.tmod (e:Int) 1024=1:=by rw[t3,h1];rfl
  have m2:(e:Int) % 1024=1:=by rw[t4,h1];rfl
  by_cases h2:e/1024<n
  ·have sK:Hid (TF=some (e/1024)):=by show _=_;rw[mO.j,if_pos ⟨h1,h2⟩]
   have c1:¬(n:Int)<=((e/1024:Nat):Int):=Zo;have c2:decide ((n:Int)<=((e/1024:Nat):Int))=false:=decide_eq_false c1;generalize e/1024=p at t1 t2 t5 sK c1 c2;clear h hr hv mO h1 h2 t3 t4 t6 eM hn hN;go_enter func178,ntmps178;go_wp2_with fail;refine fP.j.m ?_;rintro x w5 ⟨rfl,ho⟩;have HO:=aa ho;have tL:=(HR.j.quiet ho).cr;rw[<-HN.j] at tL;clear ho;go_wp2_with fail
   all_goals
    go_ret2;rw[sK.j];exact⟨rfl,HO.j⟩
  ·have sK:Hid (TF=none):=by show _=_;rw[mO.j,if_neg (λhc=>h2 hc.2)]
   have c1:(n:Int)<=((e/1024:Nat):Int):=Zo;have c2:decide ((n:Int)<=((e/1024:Nat):Int))=true:=decide_eq_true c1;generalize e/1024=p at t1 t2 t5 c1 c2;clear h hr hv mO h1 h2 t3 t4 t6 eM hn hN;go_enter func178,ntmps178;go_wp2_with fail;refine fP.j.m ?_;rintro x w5 ⟨rfl,ho⟩;have HO:=aa ho;have tL:=(HR.j.quiet ho).cr;rw[<-HN.j] at tL;clear ho;go_wp2_with fail
   all_goals
    go_ret2;rw[sK.j];exact⟨rfl,HO.j⟩
 ·have sK:Hid (TF=none):=by show _=_;rw[mO.j,if_neg (λhc=>h1 hc.1)]
  have c1:¬((e % 1024:Nat):Int)=1:=Zo;have c2:(((e % 1024:Nat):Int) !=1)=true:=by simpa using c1
  generalize e % 1024=m at t3 t4 t6 c1 c2;generalize e/1024=p at t1 t2 t5;clear h hr hv mO h1 eM hn hN;go_enter func178,ntmps178;go_wp2_with fail;refine fP.j.m ?_;rintro x w5 ⟨rfl,ho⟩;have HO:=aa ho;clear ho;go_wp2_with fail
  all_goals
   go_ret2;rw[sK.j];exact⟨rfl,HO.j⟩
theorem YX {w:World} {br bb n:Nat} {f:Nat->UInt8} (h:cR w br bb n f) (root:Int) (va:Nat) (hv:va<4294967296) (t:Int):
  Zk 121 #[Zp br,Zi root,Zi (va:Int),Zi t] w λe w'=>Zr e (Zi ((iK f n root va t).2:Nat))/\cR w' br bb n (iK f n root va t).1/\ae (λk=>k=bb) w w':=by
 have jh:=aa (D3 h root t);have HR:=aa h;by_cases hb:(hasB n root&&hasB n t)=true
 ·have df:Hid (iK f n root va t=lu f (eD root.toNat va) (1024*t.toNat+1)):=if_pos hb;rw[hb] at jh;rw[Bool.and_eq_true] at hb;obtain⟨r,rfl,hr⟩:=wO hb.1;obtain⟨p,rfl,hp⟩:=wO hb.2;rw[Int.toNat_natCast,Int.toNat_natCast] at df;have hn:=h.top;have fP:=aa (F3 h (eD r va) (FN _ _) (Bp hr hv));have mP:=aa (λwv (hm:cR wv br bb n f)=>OX hm (eD r va) (1024*p+1) Zo (FN _ _) (Bp hr hv));have q0:Int.tdiv (va:Int) 4194304=((va/4194304:Nat):Int):=by rw[Int.tdiv_eq_ediv_of_nonneg Zo];omega
  have iX:(va:Int)/4194304=((va/4194304:Nat):Int):=Zo;have w0:=Zh ((va/4194304:Nat):Int) Zo;have w1:=Zh (4096*(r:Int)) Zo;have w2:IntKind.i64.wrap (((va/4194304:Nat):Int)*4)=((va/4194304:Nat):Int)*4:=by rw[IntKind.wrap_i64];omega
  have w3:4096*(r:Int)+((va/4194304:Nat):Int)*4=((eD r va:Nat):Int):=by unfold eD;omega
  have w4:IntKind.i64.wrap ((eD r va:Nat):Int)=((eD r va:Nat):Int):=by have:=Bp hr hv;rw[IntKind.wrap_i64];omega
  have w5:=Zh (1024*(p:Int)) Zo;have w6:1024*(p:Int)+1=((1024*p+1:Nat):Int):=Zo;have w7:=Zh ((1024*p+1:Nat):Int) Zo;generalize iK f n r va p=R at df;generalize 1024*p+1=x at mP df w6 w7;generalize eD r va=P at fP mP df w3 w4;generalize va/4194304=q at q0 iX w0 w2 w3;by_cases h0:cD f P=0
  ·have bW:Hid (R=(cU f P (fJ x),0)):=by show _=_;rw[df.j];exact if_pos h0
   rw[h0] at fP;clear h hv hb hr hp hn h0 df;go_enter func121,ntmps121;go_wp2_with fail;refine jh.j.e1 ?_;go_wp2_with fail;refine fP.j.m ?_;rintro e w8 ⟨rfl,ho⟩;have HO:=aa ho;have aw:=aa (mP.j _ (HR.j.quiet ho));clear ho;go_wp2_with fail;refine aw.j.m ?_;rintro e w9 ⟨rfl,lM,aO⟩;have HE:Hid (cR w9 br bb n R.1/\ae (λk=>k=bb) w w9):=by rw[bW.j];exact⟨lM,(HO.j.f).trans aO⟩
   clear lM aO;go_wp2_with fail
   all_goals
    go_ret;refine⟨?_,HE.j⟩;rw[bW.j];rfl
  ·have bW:Hid (R=(f,7)):=by show _=_;rw[df.j];exact if_neg h0
   have c1:¬((cD f P:Nat):Int)=0:=Zo;have c2:(((cD f P:Nat):Int) !=0)=true:=by simpa using c1
   generalize cD f P=v at fP c1 c2;clear h hv hb hr hp hn h0 df mP;go_enter func121,ntmps121;go_wp2_with fail;refine jh.j.e1 ?_;go_wp2_with fail;refine fP.j.m ?_;rintro e w8 ⟨rfl,ho⟩;have HO:=aa ho;clear ho;go_wp2_with fail
   all_goals
    go_ret;rw[bW.j];exact⟨rfl,HR.j.quiet HO.j,HO.j.f⟩
 ·have df:Hid (iK f n root va t=(f,1)):=if_neg hb;have cw:(hasB n root&&hasB n t)=false:=by simpa using hb
  rw[cw] at jh;clear h hv hb cw;go_enter func121,ntmps121;go_wp2_with fail;refine jh.j.e1 ?_;go_wp2_with fail
  all_goals
   go_ret;rw[df.j];exact⟨rfl,HR.j,ae.refl _ _⟩
theorem Y0 {w:World} {br bb n:Nat} {f:Nat->UInt8} (h:cR w br bb n f) (root:Int) (va:Nat) (fr r:Int) (hb:¬((hasB n root&&hasB n fr)=true/\va % 4096=0)):
  Zk 122 #[Zp br,Zi root,Zi (va:Int),Zi fr,Zi r] w λe w'=>Zr e (Zi ((fT f n root va fr r).2:Nat))/\cR w' br bb n (fT f n root va fr r).1/\ae (λk=>k=bb) w w':=by
 have jh:=aa (D3 h root fr);have HR:=aa h;have df:Hid (fT f n root va fr r=(f,1)):=if_neg hb;have ia:(va:Int) % 4096=((va % 4096:Nat):Int):=Zo;have bE:Int.tmod (va:Int) 4096=((va % 4096:Nat):Int):=by rw[Int.tmod_eq_emod_of_nonneg Zo];omega
 have hw:=Zh ((va % 4096:Nat):Int) Zo;generalize fT f n root va fr r=R at df
 cases hB:(hasB n root&&hasB n fr) with
 |true=>
  have c1:¬((va % 4096:Nat):Int)=0:=by
   intro hc;exact hb ⟨hB,Zo⟩
  have c2:(((va % 4096:Nat):Int) !=0)=true:=by simpa using c1
  rw[hB] at jh;generalize va % 4096=m at ia bE c1 c2 hw;clear h hb hB;go_enter func122,ntmps122;go_wp2_with fail;refine jh.j.e1 ?_;go_wp2_with fail
  all_goals
   go_ret;rw[df.j]
   exact⟨rfl,HR.j,ae.refl _ _⟩
 |false=>
  rw[hB] at jh;clear h hb hB ia bE hw;go_enter func122,ntmps122;go_wp2_with fail;refine jh.j.e1 ?_;go_wp2_with fail
  all_goals
   go_ret;rw[df.j];exact⟨rfl,HR.j,ae.refl _ _⟩
theorem Y1 {w:World} {br bb n:Nat} {f:Nat->UInt8} (h:cR w br bb n f) (root:Int) (va:Nat) (hv:va<4294967296) (fr r:Int):
  Zk 122 #[Zp br,Zi root,Zi (va:Int),Zi fr,Zi r] w λe w'=>Zr e (Zi ((fT f n root va fr r).2:Nat))/\cR w' br bb n (fT f n root va fr r).1/\ae (λk=>k=bb) w w':=by
 by_cases hb:(hasB n root&&hasB n fr)=true/\va % 4096=0
 case neg=>exact Y0 h root va fr r hb
 have jh:=aa (D3 h root fr);have HR:=aa h;have df:Hid (fT f n root va fr r=if nk r=true then (match jO f n root.toNat va with|some t=>lu f (fc t va) (1024*fr.toNat+lW r)|none=>(f,15)) else (f,13)):=if_pos hb;obtain⟨hb,jC⟩:=hb;have ia:(va:Int) % 4096=0:=Zo;have bE:Int.tmod (va:Int) 4096=0:=by rw[Int.tmod_eq_emod_of_nonneg Zo];omega
 rw[hb] at jh;rw[Bool.and_eq_true] at hb;obtain⟨x,rfl,hr⟩:=wO hb.1;obtain⟨p,rfl,hp⟩:=wO hb.2;rw[Int.toNat_natCast,Int.toNat_natCast] at df;have hn:=h.top;have dC:=aa (OW h x va hr hv);have fP:=aa (λt (ht:t<n) wv (hm:cR wv br bb n f)=>F3 hm (fc t va) (Hs _ _) (Em ht));have mP:=aa (λt (ht:t<n) X (hX:X<4294967296) wv (hm:cR wv br bb n f)=>OX hm (fc t va) X hX (Hs _ _) (Em ht));have gv:=aa (λt (h:jO f n x va=some t)=>I6 h)
 have uc:Hid (∀t,t<n->4096*(t:Int)+((va/4096 % 1024:Nat):Int)*4=((fc t va:Nat):Int)/\IntKind.i64.wrap (4096*(t:Int))=4096*(t:Int)/\IntKind.i64.wrap ((fc t va:Nat):Int)=((fc t va:Nat):Int)):=λt ht=>by
  have:=Em (v:=va) ht;refine⟨by unfold fc;omega,by rw[IntKind.wrap_i64];omega,by rw[IntKind.wrap_i64];omega⟩
 have q0:Int.tdiv (va:Int) 4096=((va/4096:Nat):Int):=by rw[Int.tdiv_eq_ediv_of_nonneg Zo];omega
 have iX:(va:Int)/4096=((va/4096:Nat):Int):=Zo;have q1:Int.tmod ((va/4096:Nat):Int) 1024=((va/4096 % 1024:Nat):Int):=by rw[Int.tmod_eq_emod_of_nonneg Zo];omega
 have O8:((va/4096:Nat):Int) % 1024=((va/4096 % 1024:Nat):Int):=Zo;have s0:=Zh ((va/4096:Nat):Int) Zo;have s1:=Zh ((va/4096 % 1024:Nat):Int) Zo;have s2:IntKind.i64.wrap (((va/4096 % 1024:Nat):Int)*4)=((va/4096 % 1024:Nat):Int)*4:=by rw[IntKind.wrap_i64];omega
 generalize va/4096 % 1024=q at q1 O8 s1 s2 uc;generalize va/4096=qq at q0 iX q1 O8 s0;generalize fT f n x va p r=R at df;generalize jO f n x va=TF at dC df gv;have A1:=Zh (1024*(p:Int)) Zo;obtain⟨n1,h1⟩:=Ze (1024*p+1);obtain⟨n17,h17⟩:=Ze (1024*p+17);obtain⟨Gf,h81⟩:=Ze (1024*p+81);obtain⟨vR,SH⟩:=Ze (1024*p+83);obtain⟨JT,h87⟩:=Ze (1024*p+87);obtain⟨n215,SL⟩:=Ze (1024*p+215);obtain⟨zT,SG⟩:=Ze (1024*p+89);obtain⟨zS,SF⟩:=Ze (1024*p+91);obtain⟨n223,SK⟩:=Ze (1024*p+223);have e1_1:1024*(p:Int)+1=(n1:Int):=Zo;have e17_16:(n1:Int)+16=(n17:Int):=Zo;have e81_64:(n17:Int)+64=(Gf:Int):=Zo;have e83_2:(Gf:Int)+2=(vR:Int):=Zo;have e87_4:(vR:Int)+4=(JT:Int):=Zo;have e215_128:(JT:Int)+128=(n215:Int):=Zo;have e89_8:(Gf:Int)+8=(zT:Int):=Zo;have e91_8:(vR:Int)+8=(zS:Int):=Zo;have e223_8:(n215:Int)+8=(n223:Int):=Zo;have v1:=Zh (n1:Int) Zo;have v17:=Zh (n17:Int) Zo;have v81:=Zh (Gf:Int) Zo;have v83:=Zh (vR:Int) Zo;have v87:=Zh (JT:Int) Zo;have agm:=Zh (n215:Int) Zo;have v89:=Zh (zT:Int) Zo;have v91:=Zh (zS:Int) Zo;have agl:=Zh (n223:Int) Zo;have UO:Hid (1024*p+lW 1=vR/\vR<4294967296):=⟨by rw[SH];rfl,Zo⟩
 have UQ:Hid (1024*p+lW 3=n215/\n215<4294967296):=⟨by rw[SL];rfl,Zo⟩
 have UN:Hid (1024*p+lW 4=zT/\zT<4294967296):=⟨by rw[SG];rfl,Zo⟩
 have UM:Hid (1024*p+lW 5=zS/\zS<4294967296):=⟨by rw[SF];rfl,Zo⟩
 have UP:Hid (1024*p+lW 7=n223/\n223<4294967296):=⟨by rw[SK];rfl,Zo⟩
 clear h hv hb hr hp hn jC h1 h17 h81 SH h87 SL SG SF SK;by_cases r1:r<1
 ·have d1:decide (r<1)=true:=decide_eq_true r1;have bW:Hid (R=(f,13)):=by show _=_;rw[df.j,if_neg (by simp[nk];omega)]
  clear df;go_enter func122,ntmps122;go_wp2_with fail;refine jh.j.e1 ?_;go_wp2_with fail
  all_goals
   go_ret;rw[bW.j];exact⟨rfl,HR.j,ae.refl _ _⟩
 ·have d1:decide (r<1)=false:=decide_eq_false r1;by_cases r7:7<r
  ·have d2:decide (7<r)=true:=decide_eq_true r7;have bW:Hid (R=(f,13)):=by show _=_;rw[df.j,if_neg (by simp[nk];omega)]
   clear df;go_enter func122,ntmps122;go_wp2_with fail;refine jh.j.e1 ?_;go_wp2_with fail
   all_goals
    go_ret;rw[bW.j];exact⟨rfl,HR.j,ae.refl _ _⟩
  ·have d2:decide (7<r)=false:=decide_eq_false r7;have hc:r=1\/r=2\/r=3\/r=4\/r=5\/r=6\/r=7:=Zo;clear r1 r7 d1 d2;rcases hc with rfl|rfl|rfl|rfl|rfl|rfl|rfl
   ·rw[if_pos (show nk 1=true from Zd)] at df;have ir:=aa df.j;clear df;go_enter func122,ntmps122;go_wp2_with fail;refine jh.j.e1 ?_;go_wp2_with fail;refine dC.j.m ?_;rintro e xE ⟨rfl,ho⟩;have HO:=aa ho;clear ho
    cases TF with
    |none=>
     simp only[Option.getD_none,qZ];go_wp2_with fail
     all_goals
      go_ret;rw[ir.j]
      exact⟨rfl,HR.j.quiet HO.j,HO.j.f⟩
    |some t=>
     simp only[Option.getD_some,qZ];obtain⟨z1,z2,z3⟩:=uc.j t (gv.j t rfl);have eV:=aa (fP.j t (gv.j t rfl) _ (HR.j.quiet HO.j));have aw:=aa (mP.j t (gv.j t rfl) vR UO.j.2)
     have cZ:Hid (R=lu f (fc t va) vR):=by
      show _=_;rw[ir.j];show lu f (fc t va) (1024*p+lW 1)=_;rw[UO.j.1]
     generalize fc t va=P at eV aw cZ z1 z3;clear ir gv uc fP mP;by_cases h0:cD f P=0
     ·have dK:Hid (R=(cU f P (fJ vR),0)):=by show _=_;rw[cZ.j];exact if_pos h0
      rw[h0] at eV;clear h0 cZ;go_wp2_with fail;refine eV.j.m ?_;rintro e sX ⟨rfl,ho⟩;have bD:=aa (HO.j.trans ho);have iG:=aa (aw.j _ (HR.j.quiet bD.j));clear ho HO;go_wp2_with fail;refine iG.j.m ?_;rintro e w9 ⟨rfl,lM,aO⟩;have HE:Hid (cR w9 br bb n R.1/\ae (λk=>k=bb) w w9):=by rw[dK.j];exact⟨lM,(bD.j.f).trans aO⟩
      clear lM aO;go_wp2_with fail
      all_goals
       go_ret;refine⟨?_,HE.j⟩;rw[dK.j];rfl
     ·have dK:Hid (R=(f,7)):=by show _=_;rw[cZ.j];exact if_neg h0
      have c1:¬((cD f P:Nat):Int)=0:=Zo;have c2:(((cD f P:Nat):Int) !=0)=true:=by simpa using c1
      generalize cD f P=v at eV c1 c2;clear h0 cZ;go_wp2_with fail;refine eV.j.m ?_;rintro e sX ⟨rfl,ho⟩;have bD:=aa (HO.j.trans ho);clear ho HO;go_wp2_with fail
      all_goals
       go_ret;rw[dK.j];exact⟨rfl,HR.j.quiet bD.j,bD.j.f⟩
   ·have bW:Hid (R=(f,13)):=by show _=_;rw[df.j,if_neg Zd]
    clear df;go_enter func122,ntmps122;go_wp2_with fail;refine jh.j.e1 ?_;go_wp2_with fail
    all_goals
     go_ret;rw[bW.j];exact⟨rfl,HR.j,ae.refl _ _⟩
   ·rw[if_pos (show nk 3=true from Zd)] at df;have ir:=aa df.j;clear df;go_enter func122,ntmps122;go_wp2_with fail;refine jh.j.e1 ?_;go_wp2_with fail;refine dC.j.m ?_;rintro e xE ⟨rfl,ho⟩;have HO:=aa ho;clear ho
    cases TF with
    |none=>
     simp only[Option.getD_none,qZ];go_wp2_with fail
     all_goals
      go_ret;rw[ir.j]
      exact⟨rfl,HR.j.quiet HO.j,HO.j.f⟩
    |some t=>
     simp only[Option.getD_some,qZ];obtain⟨z1,z2,z3⟩:=uc.j t (gv.j t rfl);have eV:=aa (fP.j t (gv.j t rfl) _ (HR.j.quiet HO.j));have aw:=aa (mP.j t (gv.j t rfl) n215 UQ.j.2)
     have cZ:Hid (R=lu f (fc t va) n215):=by
      show _=_;rw[ir.j];show lu f (fc t va) (1024*p+lW 3)=_;rw[UQ.j.1]
     generalize fc t va=P at eV aw cZ z1 z3;clear ir gv uc fP mP;by_cases h0:cD f P=0
     ·have dK:Hid (R=(cU f P (fJ n215),0)):=by show _=_;rw[cZ.j];exact if_pos h0
      rw[h0] at eV;clear h0 cZ;go_wp2_with fail;refine eV.j.m ?_;rintro e sX ⟨rfl,ho⟩;have bD:=aa (HO.j.trans ho);have iG:=aa (aw.j _ (HR.j.quiet bD.j));clear ho HO;go_wp2_with fail;refine iG.j.m ?_;rintro e w9 ⟨rfl,lM,aO⟩;have HE:Hid (cR w9 br bb n R.1/\ae (λk=>k=bb) w w9):=by rw[dK.j];exact⟨lM,(bD.j.f).trans aO⟩
      clear lM aO;go_wp2_with fail
      all_goals
       go_ret;refine⟨?_,HE.j⟩;rw[dK.j];rfl
     ·have dK:Hid (R=(f,7)):=by show _=_;rw[cZ.j];exact if_neg h0
      have c1:¬((cD f P:Nat):Int)=0:=Zo;have c2:(((cD f P:Nat):Int) !=0)=true:=by simpa using c1
      generalize cD f P=v at eV c1 c2;clear h0 cZ;go_wp2_with fail;refine eV.j.m ?_;rintro e sX ⟨rfl,ho⟩;have bD:=aa (HO.j.trans ho);clear ho HO;go_wp2_with fail
      all_goals
       go_ret;rw[dK.j];exact⟨rfl,HR.j.quiet bD.j,bD.j.f⟩
   ·rw[if_pos (show nk 4=true from Zd)] at df;have ir:=aa df.j;clear df;go_enter func122,ntmps122;go_wp2_with fail;refine jh.j.e1 ?_;go_wp2_with fail;refine dC.j.m ?_;rintro e xE ⟨rfl,ho⟩;have HO:=aa ho;clear ho
    cases TF with
    |none=>
     simp only[Option.getD_none,qZ];go_wp2_with fail
     all_goals
      go_ret;rw[ir.j]
      exact⟨rfl,HR.j.quiet HO.j,HO.j.f⟩
    |some t=>
     simp only[Option.getD_some,qZ];obtain⟨z1,z2,z3⟩:=uc.j t (gv.j t rfl);have eV:=aa (fP.j t (gv.j t rfl) _ (HR.j.quiet HO.j));have aw:=aa (mP.j t (gv.j t rfl) zT UN.j.2)
     have cZ:Hid (R=lu f (fc t va) zT):=by
      show _=_;rw[ir.j];show lu f (fc t va) (1024*p+lW 4)=_;rw[UN.j.1]
     generalize fc t va=P at eV aw cZ z1 z3;clear ir gv uc fP mP;by_cases h0:cD f P=0
     ·have dK:Hid (R=(cU f P (fJ zT),0)):=by show _=_;rw[cZ.j];exact if_pos h0
      rw[h0] at eV;clear h0 cZ;go_wp2_with fail;refine eV.j.m ?_;rintro e sX ⟨rfl,ho⟩;have bD:=aa (HO.j.trans ho);have iG:=aa (aw.j _ (HR.j.quiet bD.j));clear ho HO;go_wp2_with fail;refine iG.j.m ?_;rintro e w9 ⟨rfl,lM,aO⟩;have HE:Hid (cR w9 br bb n R.1/\ae (λk=>k=bb) w w9):=by rw[dK.j];exact⟨lM,(bD.j.f).trans aO⟩
      clear lM aO;go_wp2_with fail
      all_goals
       go_ret;refine⟨?_,HE.j⟩;rw[dK.j];rfl
     ·have dK:Hid (R=(f,7)):=by show _=_;rw[cZ.j];exact if_neg h0
      have c1:¬((cD f P:Nat):Int)=0:=Zo;have c2:(((cD f P:Nat):Int) !=0)=true:=by simpa using c1
      generalize cD f P=v at eV c1 c2;clear h0 cZ;go_wp2_with fail;refine eV.j.m ?_;rintro e sX ⟨rfl,ho⟩;have bD:=aa (HO.j.trans ho);clear ho HO;go_wp2_with fail
      all_goals
       go_ret;rw[dK.j];exact⟨rfl,HR.j.quiet bD.j,bD.j.f⟩
   ·rw[if_pos (show nk 5=true from Zd)] at df;have ir:=aa df.j;clear df;go_enter func122,ntmps122;go_wp2_with fail;refine jh.j.e1 ?_;go_wp2_with fail;refine dC.j.m ?_;rintro e xE ⟨rfl,ho⟩;have HO:=aa ho;clear ho
    cases TF with
    |none=>
     simp only[Option.getD_none,qZ];go_wp2_with fail
     all_goals
      go_ret;rw[ir.j]
      exact⟨rfl,HR.j.quiet HO.j,HO.j.f⟩
    |some t=>
     simp only[Option.getD_some,qZ];obtain⟨z1,z2,z3⟩:=uc.j t (gv.j t rfl);have eV:=aa (fP.j t (gv.j t rfl) _ (HR.j.quiet HO.j));have aw:=aa (mP.j t (gv.j t rfl) zS UM.j.2)
     have cZ:Hid (R=lu f (fc t va) zS):=by
      show _=_;rw[ir.j];show lu f (fc t va) (1024*p+lW 5)=_;rw[UM.j.1]
     generalize fc t va=P at eV aw cZ z1 z3;clear ir gv uc fP mP;by_cases h0:cD f P=0
     ·have dK:Hid (R=(cU f P (fJ zS),0)):=by show _=_;rw[cZ.j];exact if_pos h0
      rw[h0] at eV;clear h0 cZ;go_wp2_with fail;refine eV.j.m ?_;rintro e sX ⟨rfl,ho⟩;have bD:=aa (HO.j.trans ho);have iG:=aa (aw.j _ (HR.j.quiet bD.j));clear ho HO;go_wp2_with fail;refine iG.j.m ?_;rintro e w9 ⟨rfl,lM,aO⟩;have HE:Hid (cR w9 br bb n R.1/\ae (λk=>k=bb) w w9):=by rw[dK.j];exact⟨lM,(bD.j.f).trans aO⟩
      clear lM aO;go_wp2_with fail
      all_goals
       go_ret;refine⟨?_,HE.j⟩;rw[dK.j];rfl
     ·have dK:Hid (R=(f,7)):=by show _=_;rw[cZ.j];exact if_neg h0
      have c1:¬((cD f P:Nat):Int)=0:=Zo;have c2:(((cD f P:Nat):Int) !=0)=true:=by simpa using c1
      generalize cD f P=v at eV c1 c2;clear h0 cZ;go_wp2_with fail;refine eV.j.m ?_;rintro e sX ⟨rfl,ho⟩;have bD:=aa (HO.j.trans ho);clear ho HO;go_wp2_with fail
      all_goals
       go_ret;rw[dK.j];exact⟨rfl,HR.j.quiet bD.j,bD.j.f⟩
   ·have bW:Hid (R=(f,13)):=by show _=_;rw[df.j,if_neg Zd]
    clear df;go_enter func122,ntmps122;go_wp2_with fail;refine jh.j.e1 ?_;go_wp2_with fail
    all_goals
     go_ret;rw[bW.j];exact⟨rfl,HR.j,ae.refl _ _⟩
   ·rw[if_pos (show nk 7=true from Zd)] at df;have ir:=aa df.j;clear df;go_enter func122,ntmps122;go_wp2_with fail;refine jh.j.e1 ?_;go_wp2_with fail;refine dC.j.m ?_;rintro e xE ⟨rfl,ho⟩;have HO:=aa ho;clear ho
    cases TF with
    |none=>
     simp only[Option.getD_none,qZ];go_wp2_with fail
     all_goals
      go_ret;rw[ir.j]
      exact⟨rfl,HR.j.quiet HO.j,HO.j.f⟩
    |some t=>
     simp only[Option.getD_some,qZ];obtain⟨z1,z2,z3⟩:=uc.j t (gv.j t rfl);have eV:=aa (fP.j t (gv.j t rfl) _ (HR.j.quiet HO.j));have aw:=aa (mP.j t (gv.j t rfl) n223 UP.j.2)
     have cZ:Hid (R=lu f (fc t va) n223):=by
      show _=_;rw[ir.j];show lu f (fc t va) (1024*p+lW 7)=_;rw[UP.j.1]
     generalize fc t va=P at eV aw cZ z1 z3;clear ir gv uc fP mP;by_cases h0:cD f P=0
     ·have dK:Hid (R=(cU f P (fJ n223),0)):=by show _=_;rw[cZ.j];exact if_pos h0
      rw[h0] at eV;clear h0 cZ;go_wp2_with fail;refine eV.j.m ?_;rintro e sX ⟨rfl,ho⟩;have bD:=aa (HO.j.trans ho);have iG:=aa (aw.j _ (HR.j.quiet bD.j));clear ho HO;go_wp2_with fail;refine iG.j.m ?_;rintro e w9 ⟨rfl,lM,aO⟩;have HE:Hid (cR w9 br bb n R.1/\ae (λk=>k=bb) w w9):=by rw[dK.j];exact⟨lM,(bD.j.f).trans aO⟩
      clear lM aO;go_wp2_with fail
      all_goals
       go_ret;refine⟨?_,HE.j⟩;rw[dK.j];rfl
     ·have dK:Hid (R=(f,7)):=by show _=_;rw[cZ.j];exact if_neg h0
      have c1:¬((cD f P:Nat):Int)=0:=Zo;have c2:(((cD f P:Nat):Int) !=0)=true:=by simpa using c1
      generalize cD f P=v at eV c1 c2;clear h0 cZ;go_wp2_with fail;refine eV.j.m ?_;rintro e sX ⟨rfl,ho⟩;have bD:=aa (HO.j.trans ho);clear ho HO;go_wp2_with fail
      all_goals
       go_ret;rw[dK.j];exact⟨rfl,HR.j.quiet bD.j,bD.j.f⟩
end Go.Proofs.YtphkconoooeidaaGreatDoor
namespace Go.Proofs
section
open Go.Shelf
def Tryz.lays128_ren:Go.Shelf.Ren:=⟨fun | 128=>217 | n=>n,fun | 51=>23 | 3=>3 | 4=>4 | 46=>187 | 5=>5 | 9=>9 | n=>n,fun | n=>n⟩
theorem Tryz.lays128:Go.Proofs.Lays.n128 Tryz.prog Tryz.lays128_ren:={
 mixed:=Zx
 f128:=Tryz.func217.trans (congrArg some Zx)
 t3:=Tryz.underlying3
 a3:=Tryz.isAgg3
 z3:=Tryz.sizeOf3
 v3:=Tryz.zeroValue3
 t4:=Tryz.underlying4
 a4:=Tryz.isAgg4
 z4:=Tryz.sizeOf4
 v4:=Tryz.zeroValue4
 t5:=Tryz.underlying5
 a5:=Tryz.isAgg5
 z5:=Tryz.sizeOf5
 v5:=Tryz.zeroValue5
 t9:=Tryz.underlying9
 a9:=Tryz.isAgg9
 z9:=Tryz.sizeOf9
 v9:=Tryz.zeroValue9
 t46:=Tryz.underlying187
 a46:=Tryz.isAgg187
 z46:=Tryz.sizeOf187
 v46:=Tryz.zeroValue187
 t51:=Tryz.underlying23
 a51:=Tryz.isAgg23
 z51:=Tryz.sizeOf23
 v51:=Tryz.zeroValue23}
theorem Tryz.bits_Len32 (x:Int) (w:World) (h0:0<=x) (h1:x<=4294967295):
  Calls Tryz.prog 217 #[.int .u32 x] w fun e w'=>e=.returned (.int .i64 (Lib.bitLen x.toNat))/\w'=w:=Any.bits_Len32 Tryz.lays128 x w h0 h1
def Tryz.lays125_ren:Go.Shelf.Ren:=⟨fun | 125=>182 | 128=>217 | 129=>218 | n=>n,fun | 46=>187 | 3=>3 | 51=>23 | 53=>309 | 4=>4 | 5=>5 | 9=>9 | n=>n,fun | n=>n⟩
theorem Tryz.lays125:Go.Proofs.Lays.n125 Tryz.prog Tryz.lays125_ren:={
 mixed:=Zx
 f125:=Tryz.func182.trans (congrArg some Zx)
 f128:=Tryz.func217.trans (congrArg some Zx)
 f129:=Tryz.func218.trans (congrArg some Zx)
 t3:=Tryz.underlying3
 a3:=Tryz.isAgg3
 z3:=Tryz.sizeOf3
 v3:=Tryz.zeroValue3
 t4:=Tryz.underlying4
 a4:=Tryz.isAgg4
 z4:=Tryz.sizeOf4
 v4:=Tryz.zeroValue4
 t5:=Tryz.underlying5
 a5:=Tryz.isAgg5
 z5:=Tryz.sizeOf5
 v5:=Tryz.zeroValue5
 t9:=Tryz.underlying9
 a9:=Tryz.isAgg9
 z9:=Tryz.sizeOf9
 v9:=Tryz.zeroValue9
 t46:=Tryz.underlying187
 a46:=Tryz.isAgg187
 z46:=Tryz.sizeOf187
 v46:=Tryz.zeroValue187
 t51:=Tryz.underlying23
 a51:=Tryz.isAgg23
 z51:=Tryz.sizeOf23
 v51:=Tryz.zeroValue23
 t53:=Tryz.underlying309
 a53:=Tryz.isAgg309
 z53:=Tryz.sizeOf309
 v53:=Tryz.zeroValue309}
theorem Tryz.bits_Len (x:Int) (w:World) (h0:0<=x) (h1:x<=18446744073709551615):
  Calls Tryz.prog 182 #[.int .u64 x] w fun e w'=>e=.returned (.int .i64 (Lib.bitLen x.toNat))/\w'=w:=Any.bits_Len Tryz.lays125 x w h0 h1
def Tryz.lays129_ren:Go.Shelf.Ren:=⟨fun | 129=>218 | n=>n,fun | 53=>309 | 3=>3 | 4=>4 | 46=>187 | 5=>5 | 9=>9 | n=>n,fun | n=>n⟩
theorem Tryz.lays129:Go.Proofs.Lays.n129 Tryz.prog Tryz.lays129_ren:={
 mixed:=Zx
 f129:=Tryz.func218.trans (congrArg some Zx)
 t3:=Tryz.underlying3
 a3:=Tryz.isAgg3
 z3:=Tryz.sizeOf3
 v3:=Tryz.zeroValue3
 t4:=Tryz.underlying4
 a4:=Tryz.isAgg4
 z4:=Tryz.sizeOf4
 v4:=Tryz.zeroValue4
 t5:=Tryz.underlying5
 a5:=Tryz.isAgg5
 z5:=Tryz.sizeOf5
 v5:=Tryz.zeroValue5
 t9:=Tryz.underlying9
 a9:=Tryz.isAgg9
 z9:=Tryz.sizeOf9
 v9:=Tryz.zeroValue9
 t46:=Tryz.underlying187
 a46:=Tryz.isAgg187
 z46:=Tryz.sizeOf187
 v46:=Tryz.zeroValue187
 t53:=Tryz.underlying309
 a53:=Tryz.isAgg309
 z53:=Tryz.sizeOf309
 v53:=Tryz.zeroValue309}
theorem Tryz.bits_Len64 (x:Int) (w:World) (h0:0<=x) (h1:x<=18446744073709551615):
  Calls Tryz.prog 218 #[.int .u64 x] w fun e w'=>e=.returned (.int .i64 (Lib.bitLen x.toNat))/\w'=w:=Any.bits_Len64 Tryz.lays129 x w h0 h1
def Tryz.laysSlM5_f127_ren:Go.Shelf.Ren:=⟨fun | 5=>127 | 8=>182 | 7=>181 | 19=>217 | 20=>218 | 10=>208 | 11=>209 | 12=>210 | 13=>211 | 14=>212 | 15=>213 | 16=>214 | 17=>215 | 18=>216 | 30=>242 | 31=>243 | 32=>244 | 33=>245 | 34=>246 | 35=>185 | 40=>255 | n=>n,fun | 23=>196 | 25=>3 | 3=>3 | 32=>187 | 22=>196 | 0=>0 | 44=>23 | 46=>309 | 4=>4 | 36=>358 | 35=>357 | 41=>334 | 5=>5 | 9=>9 | 53=>380 | 57=>384 | 63=>392 | 64=>137 | n=>n,fun | n=>n⟩
theorem Tryz.laysSlM5_f127:Go.Proofs.SlLaysM.n5 Tryz.prog Tryz.laysSlM5_f127_ren:={
 mixed:=Zx
 f5:=⟨Tryz.f127.name,Zd,Tryz.func127.trans (congrArg some Zx)⟩
 f7:=⟨Tryz.f181.name,Zd,Tryz.func181.trans (congrArg some Zx)⟩
 f8:=Tryz.func182.trans (congrArg some Zx)
 f10:=⟨Tryz.f208.name,Zd,Tryz.func208.trans (congrArg some Zx)⟩
 f11:=⟨Tryz.f209.name,Zd,Tryz.func209.trans (congrArg some Zx)⟩
 f12:=⟨Tryz.f210.name,Zd,Tryz.func210.trans (congrArg some Zx)⟩
 f13:=⟨Tryz.f211.name,Zd,Tryz.func211.trans (congrArg some Zx)⟩
 f14:=⟨Tryz.f212.name,Zd,Tryz.func212.trans (congrArg some Zx)⟩
 f15:=⟨Tryz.f213.name,Zd,Tryz.func213.trans (congrArg some Zx)⟩
 f16:=⟨Tryz.f214.name,Zd,Tryz.func214.trans (congrArg some Zx)⟩
 f17:=⟨Tryz.f215.name,Zd,Tryz.func215.trans (congrArg some Zx)⟩
 f18:=⟨Tryz.f216.name,Zd,Tryz.func216.trans (congrArg some Zx)⟩
 f19:=Tryz.func217.trans (congrArg some Zx)
 f20:=Tryz.func218.trans (congrArg some Zx)
 f30:=⟨Tryz.f242.name,Zd,Tryz.func242.trans (congrArg some Zx)⟩
 f31:=Tryz.func243.trans (congrArg some Zx)
 f32:=Tryz.func244.trans (congrArg some Zx)
 f33:=⟨Tryz.f245.name,Zd,Tryz.func245.trans (congrArg some Zx)⟩
 f34:=⟨Tryz.f246.name,Zd,Tryz.func246.trans (congrArg some Zx)⟩
 f35:=⟨Tryz.f185.name,Zd,Tryz.func185.trans (congrArg some Zx)⟩
 f40:=⟨Tryz.f255.name,Zd,Tryz.func255.trans (congrArg some Zx)⟩
 t0:=Tryz.underlying0
 a0:=Tryz.isAgg0
 z0:=Tryz.sizeOf0
 v0:=Tryz.zeroValue0
 t3:=Tryz.underlying3
 a3:=Tryz.isAgg3
 z3:=Tryz.sizeOf3
 v3:=Tryz.zeroValue3
 t4:=Tryz.underlying4
 a4:=Tryz.isAgg4
 z4:=Tryz.sizeOf4
 v4:=Tryz.zeroValue4
 t5:=Tryz.underlying5
 a5:=Tryz.isAgg5
 z5:=Tryz.sizeOf5
 v5:=Tryz.zeroValue5
 t9:=Tryz.underlying9
 a9:=Tryz.isAgg9
 z9:=Tryz.sizeOf9
 v9:=Tryz.zeroValue9
 t22:=Tryz.underlying196
 a22:=Tryz.isAgg196
 z22:=Tryz.sizeOf196
 v22:=Tryz.zeroValue196
 t23:=Tryz.underlying196
 a23:=Tryz.isAgg196
 z23:=Tryz.sizeOf196
 v23:=Tryz.zeroValue196
 t25:=Tryz.underlying3
 a25:=Tryz.isAgg3
 z25:=Tryz.sizeOf3
 v25:=Tryz.zeroValue3
 t32:=Tryz.underlying187
 a32:=Tryz.isAgg187
 z32:=Tryz.sizeOf187
 v32:=Tryz.zeroValue187
 t35:=Tryz.underlying357
 a35:=Tryz.isAgg357
 z35:=Tryz.sizeOf357
 v35:=Tryz.zeroValue357
 t36:=Tryz.underlying358
 a36:=Tryz.isAgg358
 z36:=Tryz.sizeOf358
 v36:=Tryz.zeroValue358
 t41:=Tryz.underlying334
 a41:=Tryz.isAgg334
 z41:=Tryz.sizeOf334
 v41:=Tryz.zeroValue334
 t44:=Tryz.underlying23
 a44:=Tryz.isAgg23
 z44:=Tryz.sizeOf23
 v44:=Tryz.zeroValue23
 t46:=Tryz.underlying309
 a46:=Tryz.isAgg309
 z46:=Tryz.sizeOf309
 v46:=Tryz.zeroValue309
 t53:=Tryz.underlying380
 a53:=Tryz.isAgg380
 z53:=Tryz.sizeOf380
 v53:=Tryz.zeroValue380
 t57:=Tryz.underlying384
 a57:=Tryz.isAgg384
 z57:=Tryz.sizeOf384
 v57:=Tryz.zeroValue384
 t63:=Tryz.underlying392
 a63:=Tryz.isAgg392
 z63:=Tryz.sizeOf392
 v63:=Tryz.zeroValue392
 t64:=Tryz.underlying137
 a64:=Tryz.isAgg137
 z64:=Tryz.sizeOf137
 v64:=Tryz.zeroValue137}
open Go.Sort Go.RowKit in
theorem Tryz.slices_Sort_int (eR off cap:Nat) (zs:List Int) (w:World) (hH:Holds (Value.int .i64) w eR off zs.toArray) (hblk:eR<w.heap.size) (aR:zs.length<4611686018427387904):
  Calls Tryz.prog 127 #[.slice (some ⟨eR,off,none⟩) zs.length cap] w fun e w'=>
   e=.returned (.tuple #[])/\∃n os,w'=grow (putRow (Value.int .i64) (Sort.ahead w n) eR off (zs.mergeSort fun x y=>decide (x<=y)).toArray) os:=AnyM.slices_Sort_int Tryz.laysSlM5_f127 eR off cap zs w hH hblk aR
open Go.RowKit Go.Sort in
theorem Tryz.slices_Sort_int_none (p:Option Addr) (cap:Nat) (w:World):
  Calls Tryz.prog 127 #[.slice p 0 cap] w fun e w'=>e=.returned (.tuple #[])/\w'=w:=AnyM.slices_Sort_int_none Tryz.laysSlM5_f127 p cap w
def Tryz.keysA_ren:Go.Shelf.Ren:=⟨fun | 7=>183 | 10=>219 | n=>n,fun | 23=>250 | 26=>3 | 3=>287 | 28=>199 | 0=>0 | 27=>198 | 33=>183 | 4=>4 | n=>n,fun | n=>n⟩
theorem Tryz.keysA:Go.Proofs.SlLaysZI.n7 Tryz.prog Tryz.keysA_ren:={
 mixed:=Zx
 f7:=⟨Tryz.f183.name,Zd,Tryz.func183.trans (congrArg some Zx)⟩
 f10:=⟨Tryz.f219.name,Zd,Tryz.func219.trans (congrArg some Zx)⟩
 t0:=Tryz.underlying0
 a0:=Tryz.isAgg0
 z0:=Tryz.sizeOf0
 v0:=Tryz.zeroValue0
 t4:=Tryz.underlying4
 a4:=Tryz.isAgg4
 z4:=Tryz.sizeOf4
 v4:=Tryz.zeroValue4
 t23:=Tryz.underlying250
 a23:=Tryz.isAgg250
 z23:=Tryz.sizeOf250
 v23:=Tryz.zeroValue250
 t26:=Tryz.underlying3
 a26:=Tryz.isAgg3
 z26:=Tryz.sizeOf3
 v26:=Tryz.zeroValue3
 t27:=Tryz.underlying198
 a27:=Tryz.isAgg198
 z27:=Tryz.sizeOf198
 v27:=Tryz.zeroValue198
 t28:=Tryz.underlying199
 a28:=Tryz.isAgg199
 z28:=Tryz.sizeOf199
 v28:=Tryz.zeroValue199
 t33:=Tryz.underlying183
 a33:=Tryz.isAgg183
 z33:=Tryz.sizeOf183
 v33:=Tryz.zeroValue183}
def Tryz.keysT_ren:Go.Shelf.Ren:=⟨fun | 7=>68 | 10=>128 | n=>n,fun | 23=>155 | 26=>3 | 3=>201 | 28=>199 | 0=>0 | 27=>198 | 33=>183 | 4=>4 | n=>n,fun | n=>n⟩
theorem Tryz.keysT:Go.Proofs.SlLaysZI.n7 Tryz.prog Tryz.keysT_ren:={
 mixed:=Zx
 f7:=⟨Tryz.f68.name,Zd,Tryz.func68.trans (congrArg some Zx)⟩
 f10:=⟨Tryz.f128.name,Zd,Tryz.func128.trans (congrArg some Zx)⟩
 t0:=Tryz.underlying0
 a0:=Tryz.isAgg0
 z0:=Tryz.sizeOf0
 v0:=Tryz.zeroValue0
 t4:=Tryz.underlying4
 a4:=Tryz.isAgg4
 z4:=Tryz.sizeOf4
 v4:=Tryz.zeroValue4
 t23:=Tryz.underlying155
 a23:=Tryz.isAgg155
 z23:=Tryz.sizeOf155
 v23:=Tryz.zeroValue155
 t26:=Tryz.underlying3
 a26:=Tryz.isAgg3
 z26:=Tryz.sizeOf3
 v26:=Tryz.zeroValue3
 t27:=Tryz.underlying198
 a27:=Tryz.isAgg198
 z27:=Tryz.sizeOf198
 v27:=Tryz.zeroValue198
 t28:=Tryz.underlying199
 a28:=Tryz.isAgg199
 z28:=Tryz.sizeOf199
 v28:=Tryz.zeroValue199
 t33:=Tryz.underlying183
 a33:=Tryz.isAgg183
 z33:=Tryz.sizeOf183
 v33:=Tryz.zeroValue183}
def Tryz.sortedA_ren:Go.Shelf.Ren:=⟨fun | 6=>67 | 8=>126 | 9=>127 | 11=>180 | 13=>182 | 12=>181 | 23=>217 | 24=>218 | 14=>208 | 15=>209 | 16=>210 | 17=>211 | 18=>212 | 19=>213 | 20=>214 | 21=>215 | 22=>216 | 25=>242 | 26=>243 | 27=>244 | 28=>245 | 29=>246 | 30=>185 | 31=>255 | n=>n,fun | 26=>3 | 28=>199 | 24=>196 | 0=>0 | 3=>3 | 37=>187 | 48=>23 | 50=>309 | 4=>4 | 40=>358 | 39=>357 | 45=>334 | 5=>5 | 9=>9 | 51=>380 | 55=>384 | 57=>392 | 58=>137 | 33=>183 | n=>n,fun | n=>n⟩
theorem Tryz.sortedA:Go.Proofs.SlLaysZI.n6 Tryz.prog Tryz.sortedA_ren:={
 mixed:=Zx
 f6:=⟨Tryz.f67.name,Zd,Tryz.func67.trans (congrArg some Zx)⟩
 f8:=⟨Tryz.f126.name,Zd,Tryz.func126.trans (congrArg some Zx)⟩
 f11:=⟨Tryz.f180.name,Zd,Tryz.func180.trans (congrArg some Zx)⟩
 t0:=Tryz.underlying0
 a0:=Tryz.isAgg0
 z0:=Tryz.sizeOf0
 v0:=Tryz.zeroValue0
 t24:=Tryz.underlying196
 a24:=Tryz.isAgg196
 z24:=Tryz.sizeOf196
 v24:=Tryz.zeroValue196
 t26:=Tryz.underlying3
 a26:=Tryz.isAgg3
 z26:=Tryz.sizeOf3
 v26:=Tryz.zeroValue3
 t28:=Tryz.underlying199
 a28:=Tryz.isAgg199
 z28:=Tryz.sizeOf199
 v28:=Tryz.zeroValue199
 i26:=by kernel_rfl}
def Tryz.sortOb_ren:Go.Shelf.Ren:=⟨fun | 6=>135 | 15=>182 | 14=>184 | 28=>217 | 29=>218 | 20=>220 | 21=>221 | 22=>222 | 23=>223 | 24=>224 | 25=>225 | 26=>226 | 27=>227 | 46=>247 | 47=>243 | 48=>244 | 49=>248 | 50=>249 | 57=>256 | n=>n,fun | 22=>126 | 24=>85 | 25=>293 | 3=>3 | 39=>187 | 0=>0 | 53=>23 | 55=>309 | 4=>4 | 46=>358 | 45=>357 | 50=>334 | 5=>5 | 9=>9 | 66=>380 | 70=>384 | 76=>392 | 77=>137 | n=>n,fun | n=>n⟩
theorem Tryz.sortOb:Go.Proofs.SlLaysF0.n6 Tryz.prog Tryz.sortOb_ren:={
 mixed:=Zx
 f6:=⟨Tryz.f135.name,Zd,Tryz.func135.trans (congrArg some Zx)⟩
 f14:=⟨Tryz.f184.name,Zd,Tryz.func184.trans (congrArg some Zx)⟩
 f15:=Tryz.func182.trans (congrArg some Zx)
 f20:=⟨Tryz.f220.name,Zd,Tryz.func220.trans (congrArg some Zx)⟩
 f21:=⟨Tryz.f221.name,Zd,Tryz.func221.trans (congrArg some Zx)⟩
 f22:=⟨Tryz.f222.name,Zd,Tryz.func222.trans (congrArg some Zx)⟩
 f23:=⟨Tryz.f223.name,Zd,Tryz.func223.trans (congrArg some Zx)⟩
 f24:=⟨Tryz.f224.name,Zd,Tryz.func224.trans (congrArg some Zx)⟩
 f25:=⟨Tryz.f225.name,Zd,Tryz.func225.trans (congrArg some Zx)⟩
 f26:=⟨Tryz.f226.name,Zd,Tryz.func226.trans (congrArg some Zx)⟩
 f27:=⟨Tryz.f227.name,Zd,Tryz.func227.trans (congrArg some Zx)⟩
 f28:=Tryz.func217.trans (congrArg some Zx)
 f29:=Tryz.func218.trans (congrArg some Zx)
 f46:=⟨Tryz.f247.name,Zd,Tryz.func247.trans (congrArg some Zx)⟩
 f47:=Tryz.func243.trans (congrArg some Zx)
 f48:=Tryz.func244.trans (congrArg some Zx)
 f49:=⟨Tryz.f248.name,Zd,Tryz.func248.trans (congrArg some Zx)⟩
 f50:=⟨Tryz.f249.name,Zd,Tryz.func249.trans (congrArg some Zx)⟩
 f57:=⟨Tryz.f256.name,Zd,Tryz.func256.trans (congrArg some Zx)⟩
 t0:=Tryz.underlying0
 a0:=Tryz.isAgg0
 z0:=Tryz.sizeOf0
 v0:=Tryz.zeroValue0
 t3:=Tryz.underlying3
 a3:=Tryz.isAgg3
 z3:=Tryz.sizeOf3
 v3:=Tryz.zeroValue3
 t4:=Tryz.underlying4
 a4:=Tryz.isAgg4
 z4:=Tryz.sizeOf4
 v4:=Tryz.zeroValue4
 t5:=Tryz.underlying5
 a5:=Tryz.isAgg5
 z5:=Tryz.sizeOf5
 v5:=Tryz.zeroValue5
 t9:=Tryz.underlying9
 a9:=Tryz.isAgg9
 z9:=Tryz.sizeOf9
 v9:=Tryz.zeroValue9
 t22:=Tryz.underlying126
 a22:=Tryz.isAgg126
 z22:=Tryz.sizeOf126
 v22:=Tryz.zeroValue126
 t25:=Tryz.underlying293
 a25:=Tryz.isAgg293
 z25:=Tryz.sizeOf293
 v25:=Tryz.zeroValue293
 t39:=Tryz.underlying187
 a39:=Tryz.isAgg187
 z39:=Tryz.sizeOf187
 v39:=Tryz.zeroValue187
 t45:=Tryz.underlying357
 a45:=Tryz.isAgg357
 z45:=Tryz.sizeOf357
 v45:=Tryz.zeroValue357
 t46:=Tryz.underlying358
 a46:=Tryz.isAgg358
 z46:=Tryz.sizeOf358
 v46:=Tryz.zeroValue358
 t50:=Tryz.underlying334
 a50:=Tryz.isAgg334
 z50:=Tryz.sizeOf334
 v50:=Tryz.zeroValue334
 t53:=Tryz.underlying23
 a53:=Tryz.isAgg23
 z53:=Tryz.sizeOf23
 v53:=Tryz.zeroValue23
 t55:=Tryz.underlying309
 a55:=Tryz.isAgg309
 z55:=Tryz.sizeOf309
 v55:=Tryz.zeroValue309
 t66:=Tryz.underlying380
 a66:=Tryz.isAgg380
 z66:=Tryz.sizeOf380
 v66:=Tryz.zeroValue380
 t70:=Tryz.underlying384
 a70:=Tryz.isAgg384
 z70:=Tryz.sizeOf384
 v70:=Tryz.zeroValue384
 t76:=Tryz.underlying392
 a76:=Tryz.isAgg392
 z76:=Tryz.sizeOf392
 v76:=Tryz.zeroValue392
 t77:=Tryz.underlying137
 a77:=Tryz.isAgg137
 z77:=Tryz.sizeOf137
 v77:=Tryz.zeroValue137}
end
end Go.Proofs

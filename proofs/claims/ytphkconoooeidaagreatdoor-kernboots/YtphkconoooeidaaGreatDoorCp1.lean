import Derived.Test.YtphkconoooeidaaGreatDoorRows
import Derived.BigQuiet
import Derived.Deep.AppendLies
import Derived.Deep.DeepAppendRoom
import Derived.Deep.QuietTactic
import Derived.Deep.RegionHeld3
import Derived.Deep.WholeRow
import Derived.Laws.CopyOwn
import Derived.Laws.OwnMore
import Derived.OpenShut
import Derived.OrdersHeld
import Derived.OrdersIn
import Derived.OwnWalk
import Derived.ProofKit
import Derived.WalkKit
import Derived.WalkLawsBesides
import Derived.WalkSmall
set_option maxRecDepth 100000
set_option maxHeartbeats 8000000
set_option linter.unusedVariables false
set_option linter.unusedSimpArgs false
namespace Go.Vx
end Go.Vx
open Go Go.Vx Go.Proofs.Tryz Go.ChangeShapes Go.WideShapes Go.ChangeAt Go.RowKit
namespace Go.Vx
def ff (b:UInt8):Value:=.int .u8 (b.toNat:Int)
def fD (f:Nat->UInt8) (o n:Nat):List UInt8:=(List.range n).map λj=>f (o+j)
def eZ (f:Nat->UInt8) (o n:Nat):List Value:=(fD f o n).map ff
def cU (f:Nat->UInt8) (at':Nat) (s:List UInt8):Nat->UInt8:=λx=>if at'<=x/\x<at'+s.length then s.getD (x - at') 0 else f x
theorem rz (f:Nat->UInt8) (o n:Nat):(fD f o n).length=n:=by simp[fD]
theorem uN (f:Nat->UInt8) (o n:Nat):(eZ f o n).length=n:=by simp[eZ,fD]
theorem Ek (f:Nat->UInt8) (o n j:Nat) (h:j<n):(fD f o n)[j]?=some (f (o+j)):=by
 simp[fD,h]
theorem sC (f:Nat->UInt8) (o n j:Nat) (h:j<n):(eZ f o n)[j]?=some (ff (f (o+j))):=by
 simp[eZ,fD,h]
theorem Yz {f g:Nat->UInt8} {o n:Nat} (h:∀j,j<n->f (o+j)=g (o+j)):fD f o n=fD g o n:=by
 unfold fD;apply List.map_congr_left;intro j hj;exact h j (by simpa using hj)
theorem Ys {f g:Nat->UInt8} {o n:Nat} (h:∀j,j<n->f (o+j)=g (o+j)):eZ f o n=eZ g o n:=by
 unfold eZ;rw[Yz h]
theorem aaO (f:Nat->UInt8) (o n:Nat):∀v∈eZ f o n,v.oneCell'=true:=by
 intro v hv;simp only[eZ,List.mem_map] at hv;obtain⟨b,_,rfl⟩:=hv;rfl
theorem PE (s:List UInt8):∀v∈s.map ff,v.oneCell'=true:=by
 intro v hv;simp only[List.mem_map] at hv;obtain⟨b,_,rfl⟩:=hv;rfl
theorem CV (f:Nat->UInt8) (a:Nat):cU f a []=f:=by
 funext x
 unfold cU;rw[if_neg];simp only[List.length_nil];omega
theorem FR (f:Nat->UInt8) (o n k:Nat) (s:List UInt8) (h:k+s.length<=n):splice (eZ f o n) k (s.map ff)=eZ (cU f (o+k) s) o n:=by
 apply List.ext_getElem?;intro j;unfold splice;rw[List.getElem?_append];simp only[List.length_take,uN,List.length_map];have hm:min k n=k:=by omega
 rw[hm];by_cases h1:j<k
 ·rw[if_pos h1,List.getElem?_take,if_pos h1,sC _ _ _ _ (by omega),sC _ _ _ _ (by omega)];congr 2;unfold cU;rw[if_neg (by omega)]
 ·rw[if_neg h1,List.getElem?_append];simp only[List.length_map];by_cases h2:j - k<s.length
  ·rw[if_pos h2,sC _ _ _ _ (by omega)];simp only[List.getElem?_map];unfold cU;rw[if_pos (by omega)];have e:o+j - (o+k)=j - k:=by omega
   rw[e];simp[h2]
  ·rw[if_neg h2,List.getElem?_drop];have e:k+s.length+(j - k - s.length)=j:=by omega
   rw[e];by_cases h3:j<n
   ·rw[sC _ _ _ _ h3,sC _ _ _ _ h3];congr 2;unfold cU;rw[if_neg (by omega)]
   ·rw[List.getElem?_eq_none (by rw[uN];omega),List.getElem?_eq_none (by rw[uN];omega)]
theorem Yp (f:Nat->UInt8) (o n a:Nat) (s:List UInt8) (h:a+s.length<=o\/o+n<=a):eZ (cU f a s) o n=eZ f o n:=by
 apply Ys;intro j hj;unfold cU;rw[if_neg (by omega)]
theorem Jw (f:Nat->UInt8) (a k m:Nat) (s:List UInt8) (h:k<=s.length):cU (cU f a (s.take k)) (a+k) ((s.drop k).take m)=cU f a (s.take (k+m)):=by
 funext x
 unfold cU;simp only[List.length_take,List.length_drop];have e1:min k s.length=k:=by omega
 rw[e1];by_cases h1:a+k<=x/\x<a+k+min m (s.length - k)
 ·rw[if_pos h1,if_pos (by omega)];simp only[List.getD_eq_getElem?_getD,List.getElem?_take,List.getElem?_drop];rw[if_pos (by omega),if_pos (by omega)];congr 2;omega
 ·rw[if_neg h1];by_cases h2:a<=x/\x<a+k
  ·rw[if_pos h2,if_pos (by omega)];simp only[List.getD_eq_getElem?_getD,List.getElem?_take];rw[if_pos (by omega),if_pos (by omega)]
  ·rw[if_neg h2,if_neg (by omega)]
theorem YA (f:Nat->UInt8) (o n k:Nat):(fD f o n).drop k=fD f (o+k) (n - k):=by
 apply List.ext_getElem?;intro j;rw[List.getElem?_drop];by_cases h:j<n - k
 ·rw[Ek _ _ _ _ (by omega),Ek _ _ _ _ h,Nat.add_assoc]
 ·rw[List.getElem?_eq_none (by rw[rz];omega),List.getElem?_eq_none (by rw[rz];omega)]
theorem Yq (f:Nat->UInt8) (o n:Nat) (h:∀j,j<n->f (o+j)=0):eZ f o n=List.replicate n (.int .u8 0):=by
 apply List.ext_getElem?;intro j;by_cases hj:j<n
 ·rw[sC _ _ _ _ hj,h j hj];simp[hj,ff]
 ·rw[List.getElem?_eq_none (by rw[uN];omega)];simp[hj]
def BA (o:Option Nat):Value:=.pointer (o.map λb=>⟨b,0,none⟩)
def qt (q:Nat->Option Nat) (n:Nat):List Value:=(List.range n).map λi=>BA (q i)
theorem Gw (q:Nat->Option Nat) (n:Nat):(qt q n).length=n:=by simp[qt]
theorem Hn (q:Nat->Option Nat) (n i:Nat) (h:i<n):(qt q n)[i]?=some (BA (q i)):=by simp[qt,h]
def uG (q:Nat->Option Nat) (p b:Nat):Nat->Option Nat:=λi=>if i=p then some b else q i
theorem ZP (q:Nat->Option Nat) (n p b:Nat):(qt q n).set p (BA (some b))=qt (uG q p b) n:=by
 apply List.ext_getElem?;intro j;rw[List.getElem?_set];by_cases hj:j<n
 ·rw[Hn _ _ _ hj,Gw];by_cases hp:p=j
  ·subst hp;rw[if_pos rfl,if_pos hj,Hn _ _ _ hj];simp[uG]
  ·rw[if_neg hp,Hn _ _ _ hj];have hn:¬j=p:=λe=>hp e.symm
   simp only[uG,if_neg hn]
 ·rw[List.getElem?_eq_none (l:=qt (uG q p b) n) (by rw[Gw];omega),Gw];by_cases hp:p=j
  ·rw[if_pos hp,if_neg (by omega)]
  ·rw[if_neg hp,List.getElem?_eq_none (by rw[Gw];omega)]
def fG (s:List UInt8):Value:=.string ⟨s.toArray⟩
structure ae (S:Nat->Prop) (w w':World):Prop where
 os:w'.os=w.os
 tape:w'.tape=w.tape
 output:w'.output=w.output
 size:w.heap.size<=w'.heap.size
 block:∀k,k<w.heap.size->¬S k->w'.heap[k]?=w.heap[k]?
theorem ae.refl (S:Nat->Prop) (w:World):ae S w w:=⟨rfl,rfl,rfl,Nat.le_refl _,λ_ _ _=>rfl⟩
theorem ae.trans {S:Nat->Prop} {a b c:World} (h:ae S a b) (k:ae S b c):ae S a c:=
 ⟨k.os.trans h.os,k.tape.trans h.tape,k.output.trans h.output,Nat.le_trans h.size k.size,λi hi hs=>(k.block i (Nat.lt_of_lt_of_le hi h.size) hs).trans (h.block i hi hs)⟩
theorem ae.mono {S T:Nat->Prop} {a b:World} (h:ae S a b) (hs:∀k,k<a.heap.size->S k->T k):ae T a b:=
 ⟨h.os,h.tape,h.output,h.size,λk hk hn=>h.block k hk (λs=>hn (hs k hk s))⟩
theorem ae.alloc {S:Nat->Prop} {a w:World} (h:ae S a w) (o:Obj):ae S a (w.alloc o):=
 h.trans ⟨rfl,rfl,rfl,by simp,λk hk _=>RowKit.Below.heap_alloc _ _ _ hk⟩
theorem ae.setCell {S:Nat->Prop} {a w:World} (h:ae S a w) {p:Addr} (hp:S p.block\/a.heap.size<=p.block) (u:Value):ae S a (w.setCell p u):=
 ⟨h.os,h.tape,h.output,by simp[World.setCell];exact h.size,λk hk hn=>by
  rw[RowKit.Below.heap_setCell _ _ _ _ (λe=>by subst e;rcases hp with hp|hp;exact hn hp;omega)]
  exact h.block k hk hn⟩
theorem ae.setRow {S:Nat->Prop} {a w:World} (h:ae S a w) {g:Nat} (hp:S g\/a.heap.size<=g) (cs:Array Value):ae S a (w.setRow g cs):=
 ⟨h.os,h.tape,h.output,by simp[World.setRow];exact h.size,λk hk hn=>by
  rw[setRow_other w g k cs (λe=>by subst e;rcases hp with hp|hp;exact hn hp;omega)]
  exact h.block k hk hn⟩
theorem ae.drew {S:Nat->Prop} {a w:World} (h:ae S a w):ae S a w.drew:=⟨h.os,h.tape,h.output,h.size,h.block⟩
theorem ae.drewN {S:Nat->Prop} {a w:World} (h:ae S a w) (n:Nat):ae S a (w.drewN n):=⟨h.os,h.tape,h.output,h.size,h.block⟩
theorem ae.PF {B:Nat} {S:Nat->Prop} {w w':World} (h:RowKit.Below B w w') (hB:∀k,k<w.heap.size->B<=k->S k):ae S w w':=
 ⟨h.os,h.tape,h.output,h.size,λk hk hn=>h.block k (Nat.lt_of_not_le λhb=>hn (hB k hk hb))⟩
theorem ae.below {B:Nat} {S:Nat->Prop} {w w':World} (h:ae S w w') (hB:B<=w.heap.size) (hs:∀k,k<B->¬S k):RowKit.Below B w w':=
 ⟨h.os,h.tape,h.output,h.size,λk hk=>h.block k (Nat.lt_of_lt_of_le hk hB) (hs k hk)⟩
theorem ae.cell {S:Nat->Prop} {w w':World} (h:ae S w w') {p:Addr} (hk:p.block<w.heap.size) (hn:¬S p.block):w'.cell? p=w.cell? p:=World.cell?_of_block (w:=w) (h.block p.block hk hn)
theorem aaD (w:World) (g:Nat) (cs:Array Value):ae (λk=>k=g) w (w.setRow g cs):=ae.setRow (S:=λk=>k=g) (ae.refl _ w) (Or.inl rfl) cs
theorem pY (b o j:Nat):(⟨b,o,none⟩:Addr).add j=⟨b,o+j,none⟩:=by unfold Addr.add;split<;>simp_all
theorem aa {p:Prop} (h:p):RowKit.Hid p:=h
theorem au {w:World} {b:Nat} {o:Obj} (h:w.heap[b]?=some o):b<w.heap.size:=(Array.getElem?_eq_some_iff.1 h).1
section
abbrev Zi (x:Int):Value:=.int .i64 x
abbrev Zu (x:Int):Value:=.int .u32 x
abbrev Zp (b:Nat):Value:=.pointer (some ⟨b,0,none⟩)
abbrev Zc (w:World) (b o:Nat) (v:Value):Prop:=w.cell? ⟨b,o,none⟩=some v
abbrev Zq (w w2:World):Prop:=ae (λ_=>False) w w2
theorem _root_.Go.RowKit.Hid.j {p:Prop} (h:Hid p):p:=h
abbrev Zn (U:Nat->Prop) (w w2:World):Prop:=ae (λk=>¬U k) w w2
abbrev Zs (g n c:Nat):Value:=.slice (some ⟨g,0,none⟩) n c
abbrev Zr (e:Ending) (v:Value):Prop:=e=.returned v
abbrev Zk (f:FuncId) (args:Array Value) (w:World) (Q:Ending->World->Prop):Prop:=Calls Go.Proofs.Tryz.prog f args w Q
abbrev Lp:=List (Int×Int)
theorem _root_.Go.Calls.m {P:Program} {f:FuncId} {args:Array Value} {w:World} {Q R:Ending->World->Prop} (h:Calls P f args w Q) (hq:∀e w',Q e w'->R e w'):Calls P f args w R:=h.mono hq
theorem _root_.Go.Calls.e1 {P:Program} {f:FuncId} {args:Array Value} {w:World} {v:Value} {R:Ending->World->Prop} (h:Calls P f args w λe w'=>e=.returned v/\w'=w) (hq:R (.returned v) w):Calls P f args w R:=h.mono (by rintro _ _ ⟨rfl,rfl⟩;exact hq)
theorem _root_.Go.CallsIn.m {F:Fence} {n:Nat} {P:Program} {f:FuncId} {args:Array Value} {w:World} {Q R:Ending->World->Prop} (h:CallsIn F n P f args w Q) (hq:∀e w',Q e w'->R e w'):CallsIn F n P f args w R:=h.mono hq
theorem _root_.Go.CallsIn.e1 {F:Fence} {n:Nat} {P:Program} {f:FuncId} {args:Array Value} {w:World} {v:Value} {R:Ending->World->Prop} (h:CallsIn F n P f args w λe w'=>e=.returned v/\w'=w) (hq:R (.returned v) w):CallsIn F n P f args w R:=h.mono (by rintro _ _ ⟨rfl,rfl⟩;exact hq)
variable {P:Program} {md:Region.Mode} {ops:Array Oper} {Q:Exit->Act->World->Prop} {S:World->Prop}
theorem Zt (i:Nat) {oi:Oper} {v:Value} {fuel:Nat} {listed l':Array Bool} {a a':Act} {w:World} (hS:S w) (h:wpAnyH P md ops Q S fuel l' a' w)
  (hi:ops[i]?=some oi:=by simp only[List.getElem?_toArray,List.getElem?_cons_zero,List.getElem?_cons_succ];rfl)
  (hs:Region.noSelect ops=true:=by kernel_rfl) (hf:Region.free md ops listed i=true:=by kernel_rfl) (hr:(Region.ready md ops listed).contains i=true:=by kernel_rfl)
  (hQ:∀c a w,Q (.panic c) (a.put oi.dst v) w->Q (.panic c) a w:=by exact λ_ _ _ h=>h)
  (hy:YieldsIf P ops S oi v a:=by refine Or.inl ⟨by rfl,?_⟩;intro wq nH;(try dsimp only at nH);go_simp;try (with_reducible rfl))
  (hl:listed.setIfInBounds i true=l':=by(try simp only[List.setIfInBounds_toArray,List.set_cons_zero,List.set_cons_succ]);with_reducible rfl)
  (ha:a.put oi.dst v=a':=by(try simp only[Act.put,List.setIfInBounds_toArray,List.set_cons_zero,List.set_cons_succ]);with_reducible rfl):wpAnyH P md ops Q S (fuel+1) listed a w:=by
 subst hl ha;exact wpAnyH_take hi hs hf hr hQ hy hS h
theorem Zy (i:Nat) {o:Oper} {fuel:Nat} {listed:Array Bool} {a:Act} {w:World}
  (h:∀K':Act->World->Prop,Shut (∀a w,S w->(S w->wpAnyH P md ops Q S fuel (listed.setIfInBounds i true) a w)->K' a w)->if Region.wanted o (yielded ops a.tmps)=true then Oper.wp P o a w K' Q else K' (a.put o.dst undef) w)
  (hr:Region.ready md ops listed=[i]:=by kernel_rfl) (ho:ops[i]?=some o:=by simp only[List.getElem?_toArray,List.getElem?_cons_zero,List.getElem?_cons_succ];rfl):wpAnyH P md ops Q S (fuel+1) listed a w:=
 wpAnyH_ready hr (by simp) (AllReadyH.cons ho h AllReadyH.nil)
theorem Zb {K':Act->World->Prop} {fuel:Nat} {l l':Array Bool} {a a':Act} {w:World} (hK:Shut (∀a w,S w->(S w->wpAnyH P md ops Q S fuel l a w)->K' a w)) (hS:S w) (h:wpAnyH P md ops Q S fuel l' a' w)
  (hl:l=l':=by(try simp only[List.setIfInBounds_toArray,List.set_cons_zero,List.set_cons_succ]);with_reducible rfl)
  (ha:a=a':=by(try simp only[Act.put,List.setIfInBounds_toArray,List.set_cons_zero,List.set_cons_succ]);with_reducible rfl):K' a w:=by
 subst hl ha;exact hK.out _ _ hS (λ_=>h)
theorem Zj {F:Fence} {n:Nat} (i:Nat) {o:Oper} {fuel:Nat} {listed:Array Bool} {a:Act} {w:World}
  (h:∀K':Act->World->Prop,(∀a w,wpAnyIn F n P md ops Q fuel (listed.setIfInBounds i true) a w->K' a w)->if Region.wanted o (yielded ops a.tmps)=true then Oper.wpIn F n P o a w K' Q else (∀f,o.about P w a.eval=some f->F.fn f)/\K' (a.put o.dst undef) w)
  (hr:Region.ready md ops listed=[i]:=by kernel_rfl) (ho:ops[i]?=some o:=by rfl):wpAnyIn F n P md ops Q (fuel+1) listed a w:=wpAnyIn_ready hr (by simp) (AllReadyIn.cons ho h AllReadyIn.nil)
theorem Zz {α:Type} {x y:α×Int} (h:x=y):Ending.returned (.int .i64 y.2)=.returned (.int .i64 x.2):=by rw[h]
theorem Zv {α:Type} {x y:α×Int×Nat} (h:x=y):Ending.returned (.tuple #[.int .i64 y.2.1,.int .i64 (y.2.2:Int)])=.returned (.tuple #[.int .i64 x.2.1,.int .i64 (x.2.2:Int)]):=by rw[h]
theorem Zo {p:Prop} (h:p:=by omega):p:=h
theorem Zd {p:Prop} (h:p:=by decide):p:=h
theorem Zx {p:Prop} (h:p:=by kernel_rfl):p:=h
theorem Zg {p:Prop} (h:p:=by simp only[List.getElem?_toArray,List.getElem?_cons_zero,List.getElem?_cons_succ];rfl):p:=h
theorem Zm {p:Prop} (h:p:=by simp only[RowKit.intOf];omega):p:=h
theorem Ze.{v} {α:Sort v} (e:α):∃x,x=e:=⟨_,rfl⟩
theorem Zf (j:Nat) (h:j<9223372036854775807):IntKind.i64.wrap ((j:Int)+1)=(j:Int)+1:=by rw[IntKind.wrap_i64];omega
theorem Zh (x:Int) (h: -9223372036854775808<=x/\x<=9223372036854775807):IntKind.i64.wrap x=x:=by rw[IntKind.wrap_i64];omega
theorem Za {w w2:World} {o:Obj} (h:w2=w.alloc o):Zq w w2:=by rw[h];exact(ae.refl _ w).alloc _
theorem ae.f {S:Nat->Prop} {w w2:World} (h:Zq w w2):ae S w w2:=h.mono (λ_ _ h=>h.elim)
theorem Zl {w:World} {b j:Nat} {cs:Array Value} {t:TypeId} {v:Value} (h:w.heap[b]?=some (.cells cs t (0,0))) (hv:cs[j]?=some v:=by rfl):w.cell? ⟨b,j,none⟩=some v:=(cell_of_row _ _ j _ _ (0,0) h).trans hv
end
section
theorem OG {P:Program} (w:World) (t ty:TypeId) (base:Nat) (e:TypeId) (i:TypeInfo) (z:Value) (size bytes:Nat) (ht:P.underlying t=some (.slice e)) (hi:P.info? e=some i) (hz:i.zero=some z)
  (tA:i.size=size) (B6:i.bytes=bytes) (BH:z.cells.size=size) (aR:0<size)
  (v:Value) (n:Nat) (xs:List Value) (jF:w.ownsRow base e size v n xs)
  (ad:Addr) (m c:Nat) (news:List Value) (hl:news.length=m*size) (DL:∀j u,news[j]?=some u->w.cell? (ad.add j)=some u) (h1:∀u∈news,u.oneCell'=true)
  (hm:0<m) (Hl:n+m<=maxLen) (B4:(n+m)*bytes<=140737488355328) (jb:base<=w.heap.size):
  ∃g cap w',(Builtin.append_ #[t,t] ty #[v,.slice (some ad) m c]).run P w=.ok (Zs g (n+m) cap) w'/\
   w'.ownsRow base e size (Zs g (n+m) cap) (n+m) (xs++news)/\((v.ownBlock=some g/\w.grownBy w' (some g))\/(g=w.heap.size/\w.grownBy w' none))/\g<w'.heap.size:=by
 obtain⟨g,cap,w',hr,h2,h3,h4,h5⟩:=run_append_lies (P:=P) w t ty base e i z size bytes ht hi hz tA B6 BH aR v n xs jF ad m c news hl DL h1 hm Hl B4 jb _ rfl;rcases jF.2 with⟨rfl,rfl⟩|⟨g0,Hz,cur,rfl,hb0,BV,oa,jo,du,Ds⟩
 ·refine⟨g,cap,w',hr,h2,Or.inr ⟨?_,h3⟩,h5⟩;rcases h4 with h4|h4
  ·cases h4
  ·exact h4
 ·by_cases ae1:n+m<=Hz
  ·obtain⟨w1,Dw,k1,k2⟩:=run_append_own_spare (P:=P) w base t ty e i size ht hi tA g0 n Hz xs jF ad m c news hl DL h1 ae1;exact⟨g0,Hz,w1,Dw,k1,Or.inl ⟨rfl,k2⟩,(k1.lt g0 rfl).2⟩
  ·subst tA
   subst B6;have hg:=run_append_grow (P:=P) w t ty e i z ht hi hz ⟨g0,0,none⟩ n Hz xs jF.1 (jF.cells (g:=g0) rfl) ad m c news hl DL Zo (by simp only[maxLen] at Hl;omega) (growslice_fits Zo B4);rw[hr] at hg;injection hg with hv hw
   injection hv with ha _ hc
   injection ha with ha
   injection ha with ha _ _
   refine⟨g,cap,w',hr,h2,Or.inr ⟨ha,?_⟩,h5⟩;rw[hw];exact⟨rfl,rfl,rfl,by simp,λk hk _=>RowKit.Below.heap_alloc w.drew _ _ hk⟩
theorem Wc {P:Program} (w:World) {ops:Array Oper} {rest:List Oper} {o:Oper} {a:Act} {Q:Exit->Act->World->Prop} (fu:o.guard=none) (s x:Operand) (t:TypeId)
  (ho:o.op=.call {callee:=.builtin .append,args:=#[s,x],argTypes:=#[t,t]})
  (base:Nat) (e:TypeId) (i:TypeInfo) (z:Value) (size bytes:Nat) (ht:P.underlying t=some (.slice e)) (hi:P.info? e=some i) (hz:i.zero=some z)
  (tA:i.size=size) (B6:i.bytes=bytes) (BH:z.cells.size=size) (aR:0<size)
  (v:Value) (n:Nat) (xs:List Value) (hs:a.eval s=v) (jF:w.ownsRow base e size v n xs)
  (ad:Addr) (m c:Nat) (news:List Value) (hx:a.eval x=.slice (some ad) m c) (hl:news.length=m*size) (DL:∀j u,news[j]?=some u->w.cell? (ad.add j)=some u) (h1:∀u∈news,u.oneCell'=true)
  (hm:0<m) (Hl:n+m<=maxLen) (B4:(n+m)*bytes<=140737488355328) (jb:base<=w.heap.size)
  (h:∀g cap w',w'.ownsRow base e size (Zs g (n+m) cap) (n+m) (xs++news)->((v.ownBlock=some g/\w.grownBy w' (some g))\/(g=w.heap.size/\w.grownBy w' none))->g<w'.heap.size->wpList P ops Q rest (a.put o.dst (Zs g (n+m) cap)) w'):wpList P ops Q (o::rest) a w:=by
 refine wpList_plain fu λK hK=>?_
 obtain⟨g,cap,w',hr,h2,h3,h4⟩:=OG (P:=P) w t o.type base e i z size bytes ht hi hz tA B6 BH aR v n xs jF ad m c news hl DL h1 hm Hl B4 jb;unfold Oper.wp execOp;simp only[ho,resolve,invoke,builtin,Sem.run_bind,Sem.run_pure,Result.andThen_ok,List.map_toArray,List.map_cons,List.map_nil,hs,hx,hr];exact hK _ _ (h g cap w' h2 h3 h4)
theorem ae.grown {S:Nat->Prop} {w0 w w':World} {row:Option Nat} (h:ae S w0 w) (hg:w.grownBy w' row) (hr:∀k,row=some k->S k\/w0.heap.size<=k):ae S w0 w':=
 ⟨hg.os.trans h.os,hg.tape.trans h.tape,hg.output.trans h.output,Nat.le_trans h.size hg.size,λk hk hn=>(hg.block k (Nat.lt_of_lt_of_le hk h.size) (λe=>by
  rcases hr k e.symm with h1|h1
  ·exact hn h1
  ·omega)).trans (h.block k hk hn)⟩
theorem ae.both {w w':World} (h:Zq w w'):w.grownBy w' none:=⟨h.os,h.tape,h.output,h.size,λk hk _=>h.block k hk (λh=>h)⟩
structure Lay (α:Type) where
 cf:α->List Value
 sz:Nat
 len:∀a,(cf a).length=sz
 one:∀a,∀u∈cf a,u.oneCell'=true
 pos:0<sz
variable {α:Type}
def fl (L:Lay α) (xs:List α):List Value:=xs.flatMap L.cf
theorem ov (L:Lay α) (a:α) (xs:List α):fl L (a::xs)=L.cf a++fl L xs:=by simp[fl]
theorem Mh (L:Lay α) (xs ys:List α):fl L (xs++ys)=fl L xs++fl L ys:=by simp[fl]
theorem S7 (L:Lay α) (a:α):fl L [a]=L.cf a:=by simp[fl]
theorem j8 (L:Lay α) (xs:List α):(fl L xs).length=xs.length*L.sz:=by
 induction xs with
 |nil=>simp[fl]
 |cons a xs ih=>rw[ov,List.length_append,ih,L.len,List.length_cons,Nat.add_mul];omega
theorem vh (L:Lay α) (xs:List α) (k j:Nat) (hk:k<xs.length) (hj:j<L.sz):(fl L xs)[k*L.sz+j]?=(L.cf xs[k])[j]?:=by
 induction xs generalizing k with
 |nil=>simp at hk
 |cons a xs ih=>
  rw[ov]
  cases k with
  |zero=>
   rw[List.getElem?_append_left (by rw[L.len];omega)]
   simp
  |succ k=>
   have e:(k+1)*L.sz+j - (L.cf a).length=k*L.sz+j:=by rw[L.len,Nat.add_mul];omega
   rw[List.getElem?_append_right (by rw[L.len,Nat.add_mul];omega),e,ih k (by simpa using hk)];rfl
theorem aaJ (L:Lay α) (xs:List α):∀u∈fl L xs,u.oneCell'=true:=by
 intro u hu;simp only[fl,List.mem_flatMap] at hu;obtain⟨a,_,ha⟩:=hu;exact L.one a u ha
theorem AT (L:Lay α) (xs:List α) (k:Nat) (y:α) (hk:k<xs.length) (zs:List Value) (hz:zs.length=(fl L xs).length) (dI:∀j,j<L.sz->zs[k*L.sz+j]?=(L.cf y)[j]?) (ae6:∀i,(i<k*L.sz\/k*L.sz+L.sz<=i)->zs[i]?=(fl L xs)[i]?):zs=fl L (xs.set k y):=by
 apply List.ext_getElem?;intro i;have hp:=L.pos;by_cases hi:i<xs.length*L.sz
 ·have hd:i/L.sz<xs.length:=(Nat.div_lt_iff_lt_mul hp).2 hi;have hm:i % L.sz<L.sz:=Nat.mod_lt _ hp;have ei:i/L.sz*L.sz+i % L.sz=i:=by rw[Nat.mul_comm];exact Nat.div_add_mod i L.sz
  have h2:=vh L (xs.set k y) (i/L.sz) (i % L.sz) (by simpa using hd) hm;rw[ei] at h2;rw[h2];by_cases hq:i/L.sz=k
  ·have hg:(xs.set k y)[i/L.sz]'(by simpa using hd)=y:=by simp[hq]
   have h3:=dI (i % L.sz) hm;rw[<-hq,ei] at h3;rw[hg,h3]
  ·have hg:(xs.set k y)[i/L.sz]'(by simpa using hd)=xs[i/L.sz]:=by rw[List.getElem_set,if_neg (λe=>hq e.symm)]
   have h1:=vh L xs (i/L.sz) (i % L.sz) hd hm;rw[ei] at h1;rw[hg,<-h1];refine ae6 i ?_;by_cases hc:i<k*L.sz
   ·exact Or.inl hc
   ·right;have dA:k<=i/L.sz:=(Nat.le_div_iff_mul_le hp).2 Zo;have pS:k+1<=i/L.sz:=Zo;have:=(Nat.le_div_iff_mul_le hp).1 pS;rw[Nat.add_mul] at this;omega
 ·rw[List.getElem?_eq_none (by rw[hz,j8];omega),List.getElem?_eq_none (by rw[j8,List.length_set];omega)]
def ai (L:Lay α) (w:World) (base:Nat) (e:TypeId) (v:Value) (xs:List α):Prop:=w.ownsRow base e L.sz v xs.length (fl L xs)
theorem ai.kept {L:Lay α} {S:Nat->Prop} {w w':World} {base:Nat} {e:TypeId} {v:Value} {xs:List α} (h:ai L w base e v xs) (ho:ae S w w') (hS:∀k,v.ownBlock=some k->¬S k):ai L w' base e v xs:=by
 refine⟨h.1,h.2.imp (λh=>h) (λ⟨g,cap,cur,a,b,c,d⟩=>⟨g,cap,cur,a,b,?_,d⟩)⟩;rw[ho.block g (au c) (hS g (by rw[a];rfl))];exact c
theorem ai.nil (L:Lay α) (w:World) (base:Nat) (e:TypeId):ai L w base e (.slice none 0 0) []:=World.ownsRow_nil _ _ _ _
theorem ai.form {L:Lay α} {w:World} {base:Nat} {e:TypeId} {v:Value} {xs:List α} (h:ai L w base e v xs):∃p c,v=.slice p xs.length c/\xs.length<=c/\c<=maxLen/\(0<xs.length->∃g,p=some ⟨g,0,none⟩/\base<=g/\g<w.heap.size/\v.ownBlock=some g):=by
 rcases h.2 with⟨hv,h0⟩|⟨g,cap,cur,hv,hb,hg,oa,jo,_⟩
 ·exact⟨none,0,by rw[hv,h0],Zo,Zd,λh=>Zo⟩
 ·exact⟨_,cap,hv,oa,jo,λ_=>⟨g,rfl,hb,au hg,by rw[hv];rfl⟩⟩
theorem ai.cell {L:Lay α} {w:World} {base g n c:Nat} {e:TypeId} {xs:List α} (h:ai L w base e (Zs g n c) xs) (k j:Nat) (hk:k<xs.length) (hj:j<L.sz):w.cell? ⟨g,k*L.sz+j,none⟩=(L.cf xs[k])[j]?:=by
 have hn:n=xs.length:=by
  rcases h.2 with⟨hv,h0⟩|⟨g',cap,cur,hv,_⟩
  ·simp at hv
  ·simp at hv;exact hv.2.1
 subst hn
 have ah:k*L.sz+j<xs.length*L.sz:=by
  have:(k+1)*L.sz<=xs.length*L.sz:=Nat.mul_le_mul_right _ hk;rw[Nat.add_mul] at this;omega
 rw[World.ownsRow.cellAt h (k*L.sz+j) ah,vh L xs k j hk hj]
theorem ai.fz {L:Lay α} {w:World} {base g n c:Nat} {e:TypeId} {xs:List α} (h:ai L w base e (Zs g n c) xs) (j:Nat):w.frozen? ⟨g,j,none⟩=false:=by
 have hn:n=xs.length:=by
  rcases h.2 with⟨hv,h0⟩|⟨g',cap,cur,hv,_⟩
  ·simp at hv
  ·simp at hv;exact hv.2.1
 subst hn;exact World.ownsRow.frozenAt h j
end
section
variable {α:Type}
structure Kind (P:Program) (L:Lay α) (t e:TypeId):Prop where
 ht:P.underlying t=some (.slice e)
 hi:∃(i:TypeInfo) (z:Value),P.info? e=some i/\i.zero=some z/\i.size=L.sz/\i.bytes<=1000/\z.cells.size=L.sz
theorem Yf {P:Program} {L:Lay α} {t e:TypeId} (hk:Kind P L t e) (w:World) (ty:TypeId) (p:Option Addr) (n cap:Nat) (h:n<=cap) (q:Option Addr) (c:Nat):(Builtin.append_ #[t,t] ty #[.slice p n cap,.slice q 0 c]).run P w=.ok (.slice p n cap) w:=by
 obtain⟨i,z,hi,hz,hs,hb,BH⟩:=hk.hi
 have hf:(Builtin.firstCells L.sz 0 (.slice q 0 c)).run P w=.ok #[] w:=by
  cases q with
  |none=>simp[Builtin.firstCells]
  |some a=>simp[Builtin.firstCells,loadCells,loadCellsFrom]
 have BW:(Builtin.firstCells i.size 0 (.slice q 0 c)).run P w=.ok #[] w:=by rw[hs];exact hf
 cases p with
 |none=>simp[Builtin.append_,run_underlying hk.ht,sizeOf,typeInfo,hi,Builtin.lenOf,h,BW]
 |some a=>simp[Builtin.append_,run_underlying hk.ht,sizeOf,typeInfo,hi,Builtin.lenOf,h,BW,storeCells]
theorem Jk {P:Program} {L:Lay α} {t e:TypeId} (hk:Kind P L t e) (w:World) (ty:TypeId) (base:Nat) (v:Value) (xs:List α) (jF:ai L w base e v xs) (q:Option Addr) (c:Nat) (ys:List α)
  (hq:0<ys.length->∃ad,q=some ad/\∀j u,(fl L ys)[j]?=some u->w.cell? (ad.add j)=some u) (hlen:xs.length+ys.length<=10000000) (jb:base<=w.heap.size):
  ∃v' w',(Builtin.append_ #[t,t] ty #[v,.slice q ys.length c]).run P w=.ok v' w'/\ai L w' base e v' (xs++ys)/\ae (λk=>v.ownBlock=some k) w w'/\(v'.ownBlock=v.ownBlock\/∃g,v'.ownBlock=some g/\w.heap.size<=g/\Zq w w'):=by
 by_cases h0:ys.length=0
 ·have hy:ys=[]:=List.length_eq_zero_iff.1 h0;subst hy;obtain⟨p,cap,rfl,oa,_,_⟩:=jF.form;refine⟨_,w,Yf hk w ty p xs.length cap oa q c,by rw[List.append_nil];exact jF,ae.refl _ w,Or.inl rfl⟩
 ·obtain⟨ad,rfl,had⟩:=hq Zo;obtain⟨i,z,hi,hz,hs,hb,BH⟩:=hk.hi;have B4:(xs.length+ys.length)*i.bytes<=140737488355328:=Nat.le_trans (Nat.mul_le_mul hlen hb) Zd;obtain⟨g,cap,w',hr,h2,h3,h4⟩:=OG (P:=P) w t ty base e i z L.sz i.bytes hk.ht hi hz hs rfl BH L.pos v xs.length (fl L xs) jF ad ys.length c (fl L ys) (j8 L ys) had (aaJ L ys) Zo (by unfold maxLen;omega) B4 jb;refine⟨_,w',hr,?_,?_,?_⟩
  ·show w'.ownsRow _ _ _ _ (xs++ys).length _;rw[Mh,List.length_append];exact h2
  ·rcases h3 with⟨h3,h5⟩|⟨h3,h5⟩
   ·exact ae.grown (ae.refl _ w) h5 (λk hk=>Or.inl (by rw[h3,hk]))
   ·exact ae.grown (ae.refl _ w) h5 (λk hk=>by cases hk)
  ·rcases h3 with⟨h3,h5⟩|⟨h3,h5⟩
   ·exact Or.inl h3.symm
   ·exact Or.inr ⟨g,rfl,Zo,ae.grown (ae.refl _ w) h5 (λk hk=>by cases hk)⟩
theorem CH {P:Program} {L:Lay α} {t e:TypeId} (hk:Kind P L t e) (w:World) {ops:Array Oper} {rest:List Oper} {o:Oper} {a:Act} {Q:Exit->Act->World->Prop} (fu:o.guard=none) (s x:Operand)
  (ho:o.op=.call {callee:=.builtin .append,args:=#[s,x],argTypes:=#[t,t]}) (base:Nat) (v:Value) (xs:List α) (hs:a.eval s=v) (jF:ai L w base e v xs) (q:Option Addr) (c n:Nat) (ys:List α) (hx:a.eval x=.slice q n c) (hn:n=ys.length)
  (hq:0<ys.length->∃ad,q=some ad/\∀j u,(fl L ys)[j]?=some u->w.cell? (ad.add j)=some u) (hlen:xs.length+ys.length<=10000000) (jb:base<=w.heap.size)
  (h:∀v' w',ai L w' base e v' (xs++ys)->ae (λk=>v.ownBlock=some k) w w'->(v'.ownBlock=v.ownBlock\/∃g,v'.ownBlock=some g/\w.heap.size<=g/\Zq w w')->wpList P ops Q rest (a.put o.dst v') w'):wpList P ops Q (o::rest) a w:=by
 subst hn;refine wpList_plain fu λK hK=>?_
 obtain⟨v',w',hr,h2,h3,h4⟩:=Jk hk w o.type base v xs jF q c ys hq hlen jb;unfold Oper.wp execOp;simp only[ho,resolve,invoke,builtin,Sem.run_bind,Sem.run_pure,Result.andThen_ok,List.map_toArray,List.map_cons,List.map_nil,hs,hx,hr];exact hK _ _ (h v' w' h2 h3 h4)
theorem mg {P:Program} {L:Lay α} {t e:TypeId} (hk:Kind P L t e) (w:World) {ops:Array Oper} {rest:List Oper} {o:Oper} {a:Act} {Q:Exit->Act->World->Prop} (fu:o.guard=none) (s x:Operand)
  (ho:o.op=.call {callee:=.builtin .append,args:=#[s,x],argTypes:=#[t,t]}) (base:Nat) (v:Value) (xs:List α) (hs:a.eval s=v) (jF:ai L w base e v xs) (y:α) (e':TypeId) (ya:Array Value) (tj:ya=(L.cf y).toArray) {b:Nat} (hb:b=w.heap.size) (hx:a.eval x=Zs b 1 1) (hlen:xs.length+1<=10000000) (jb:base<=w.heap.size)
  (h:∀v' w',ai L w' base e v' (xs++[y])->ae (λk=>v.ownBlock=some k) w w'->(v'.ownBlock=v.ownBlock\/∃g,v'.ownBlock=some g/\w.heap.size<=g/\Zq w w')->wpList P ops Q rest (a.put o.dst v') w'):wpList P ops Q (o::rest) a (w.alloc (.cells ya e')):=by
 subst hb;have ha:Zq w (w.alloc (.cells ya e')):=(ae.refl _ w).alloc _;refine CH hk _ fu s x ho base v xs hs (jF.kept ha (λ_ _ h=>h)) (some ⟨w.heap.size,0,none⟩) 1 1 [y] hx rfl (λ_=>⟨_,rfl,λj u hj=>?_⟩) hlen (Nat.le_trans jb ha.size) (λv' w' h1 h2 h3=>?_)
 ·rw[S7] at hj;rw[pY,Nat.zero_add,cell_of_row _ _ j _ _ (0,0) (heap_alloc_last w _),tj];simpa using hj
 ·refine h v' w' h1 ((ha.f).trans h2) ?_;rcases h3 with h3|⟨g,h3,h4,h5⟩
  ·exact Or.inl h3
  ·exact Or.inr ⟨g,h3,Nat.le_trans ha.size h4,ha.trans h5⟩
theorem aeC (L:Lay α) (xs:List α) (a:Nat) (j:Nat):(fl L (xs.drop a))[j]?=(fl L xs)[a*L.sz+j]?:=by
 have e:fl L xs=fl L (xs.take a)++fl L (xs.drop a):=by rw[<-Mh,List.take_append_drop]
 by_cases ha:a<=xs.length
 ·have hl:(fl L (xs.take a)).length=a*L.sz:=by rw[j8,List.length_take,Nat.min_eq_left ha]
  rw[e,List.getElem?_append_right Zo,hl];congr 1;omega
 ·have h1:(fl L (xs.drop a)).length=0:=by rw[j8,List.length_drop,show xs.length - a=0 from Zo,Nat.zero_mul]
  have h2:(fl L xs).length<=a*L.sz+j:=by
   rw[j8];have:xs.length*L.sz<=a*L.sz:=Nat.mul_le_mul_right _ Zo;omega
  rw[List.getElem?_eq_none Zo,List.getElem?_eq_none h2]
theorem ai.part {L:Lay α} {w:World} {base g n c:Nat} {e:TypeId} {xs:List α} (h:ai L w base e (Zs g n c) xs) (a m:Nat) (j:Nat) (u:Value) (hj:(fl L ((xs.drop a).take m))[j]?=some u):w.cell? ((⟨g,a*L.sz,none⟩:Addr).add j)=some u:=by
 have hn:n=xs.length:=by
  rcases h.2 with⟨hv,h0⟩|⟨g',cap,cur,hv,_⟩
  ·simp at hv
  ·simp at hv;exact hv.2.1
 subst hn
 have fi:(fl L (xs.drop a))[j]?=some u:=by
  have e:fl L (xs.drop a)=fl L ((xs.drop a).take m)++fl L ((xs.drop a).drop m):=by rw[<-Mh,List.take_append_drop]
  rw[e,List.getElem?_append_left (List.getElem?_eq_some_iff.1 hj).1];exact hj
 rw[aeC] at fi
 have ah:a*L.sz+j<xs.length*L.sz:=by
  have:=(List.getElem?_eq_some_iff.1 fi).1;rw[j8] at this;exact this
 rw[pY,World.ownsRow.cellAt h _ ah];exact fi
theorem ae.beyond {S:Nat->Prop} {a b c:World} (h:Zq a b) (h2:ae S b c) (hS:∀k,S k->a.heap.size<=k):Zq a c:=
 ⟨h2.os.trans h.os,h2.tape.trans h.tape,h2.output.trans h.output,Nat.le_trans h.size h2.size,λk hk _=>(h2.block k (Nat.lt_of_lt_of_le hk h.size) (λe=>by have:=hS k e;omega)).trans (h.block k hk (λh=>h))⟩
theorem ae.JR {S:Nat->Prop} {a b c:World} {z:Nat} (h:ae S a b) (h2:ae (λk=>k=z) b c) (hz:a.heap.size<=z):ae S a c:=
 ⟨h2.os.trans h.os,h2.tape.trans h.tape,h2.output.trans h.output,Nat.le_trans h.size h2.size,λk hk hn=>(h2.block k (Nat.lt_of_lt_of_le hk h.size) (λe=>Zo)).trans (h.block k hk hn)⟩
end
abbrev Sl:=Int×Int
structure Cp where
 kind:Int
 num:Int
 rights:Int
 cQ:Int
 guard:Int
 bS:Int
 root:Int
 va:Int
def Cp.df:Cp:=⟨0,0,0,0,0,0,0,0⟩
structure En where
 at':Sl
 cap:Cp
 aW:Sl
def En.df:En:=⟨(0,0),.df,(0,0)⟩
def iW (s:Sl):List Value:=[Zi s.1,Zi s.2]
def de (c:Cp):List Value:=[Zi c.kind,Zi c.num,Zi c.rights,Zu c.cQ,Zu c.guard,Zi c.bS,Zi c.root,Zu c.va]
def vk (e:En):List Value:=iW e.at'++de e.cap++iW e.aW
theorem Ml (e:En):vk e=[Zi e.at'.1,Zi e.at'.2,Zi e.cap.kind,Zi e.cap.num,Zi e.cap.rights,Zu e.cap.cQ,Zu e.cap.guard,Zi e.cap.bS,Zi e.cap.root,Zu e.cap.va,Zi e.aW.1,Zi e.aW.2]:=rfl
def aJ:Lay Sl:=⟨iW,2,λ_=>rfl,λa u hu=>by simp only[iW,List.mem_cons,List.not_mem_nil,or_false] at hu;rcases hu with rfl|rfl<;>rfl,Zd⟩
def dP:Lay En:=⟨vk,12,λ_=>rfl,λa u hu=>by
 rw[Ml] at hu;simp only[List.mem_cons,List.not_mem_nil,or_false] at hu
 rcases hu with rfl|rfl|rfl|rfl|rfl|rfl|rfl|rfl|rfl|rfl|rfl|rfl<;>rfl,Zd⟩
def Ib:Lay (Int×Int):=aJ
def fB (n:Int):Bool:=decide (n=1\/n=2\/n=4\/n=8\/n=16\/n=32\/n=64)
def je (a b:Sl):Bool:=decide (a.1<b.1\/(a.1=b.1/\a.2<b.2))
def dq {α:Type} (p:α->Bool):List α->Nat->Option Nat
 |[],_=>none
 |a::l,k=>if p a then some k else dq p l (k+1)
def ti (o:Option Nat):Int:=match o with|some k=>k|none=> -1
theorem QH {α:Type} {p:α->Bool}:∀{l:List α} {k i:Nat},dq p l k=some i->k<=i/\i<k+l.length
 |[],k,i,h=>by cases h
 |a::l,k,i,h=>by
  unfold dq at h;by_cases hp:p a=true
  ·rw[if_pos hp] at h;injection h with h;subst h;simp
  ·rw[if_neg hp] at h;have:=QH h;simp only[List.length_cons];omega
theorem uP {α:Type} {p:α->Bool}:∀{l:List α} {k i:Nat} (h:dq p l k=some i),∃(hi:i - k<l.length),p (l[i - k])=true
 |[],k,i,h=>by cases h
 |a::l,k,i,h=>by
  unfold dq at h;by_cases hp:p a=true
  ·rw[if_pos hp] at h;injection h with h;subst h;exact⟨by simp,by simpa using hp⟩
  ·rw[if_neg hp] at h;have h1:=QH h;obtain⟨h2,h3⟩:=uP h;have e:i - k=(i - (k+1))+1:=Zo;refine⟨by simp only[List.length_cons];omega,?_⟩;have:(a::l)[i - k]'(by simp only[List.length_cons];omega)=l[i - (k+1)]:=by simp only[e,List.getElem_cons_succ]
   rw[this];exact h3
theorem mu {α:Type} {p:α->Bool}:∀{l:List α} {k:Nat},dq p l k=none->∀a∈l,p a=false
 |[],k,h,a,ha=>by cases ha
 |b::l,k,h,a,ha=>by
  unfold dq at h;by_cases hp:p b=true
  ·rw[if_pos hp] at h;cases h
  ·rw[if_neg hp] at h;rcases List.mem_cons.1 ha with rfl|ha
   ·simpa using hp
   ·exact mu h a ha
theorem Aa {α:Type} {p:α->Bool} (l:List α) (k:Nat) (hk:k<l.length):dq p (l.drop k) k=if p l[k] then some k else dq p (l.drop (k+1)) (k+1):=by
 rw[List.drop_eq_getElem_cons hk];rfl
theorem Ab {α:Type} {p:α->Bool} (l:List α):dq p (l.drop l.length) l.length=none:=by
 rw[List.drop_length];rfl
def mK (bs:Lp) (n:Int):Option Nat:=dq (λb=>decide (b.1=n)) bs 0
def kq (es:List En) (s:Sl):Option Nat:=dq (λe=>decide (e.at'=s)) es 0
def bR (bs:Lp) (n:Int):Option Int:=(mK bs n).map λi=>(bs.getD i (0,0)).2
def cy (bs:Lp) (es:List En) (s:Sl):Except Int Nat:=
 match bR bs s.1 with
 |none=>.error 9
 |some n=>if s.2<0\/n<=s.2 then .error 9 else match kq es s with
  |none=>.error 11
  |some i=>.ok i
def nI (r:Except Int Nat):Int:=match r with|.ok _=>0|.error e=>e
def pW (r:Except Int Nat):Int:=match r with|.ok i=>i|.error _=>0
def jc (bs:Lp) (es:List En) (s:Sl):Int:=match cy bs es s with|.ok _=>10|.error e=>if e=11 then 0 else e
theorem vQ {α:Type} [DecidableEq α]:∀(l m:List α),l.Nodup->(∀x∈l,x∈m)->l.length<=m.length
 |[],m,_,_=>Nat.zero_le _
 |x::l,m,hn,hs=>by
  rw[List.nodup_cons] at hn;have hx:=hs x (by simp)
  have h1:=vQ l (m.erase x) hn.2 (λy hy=>by
   have Ac:y≠x:=λe=>hn.1 (by rw[<-e];exact hy)
   exact(List.mem_erase_of_ne Ac).2 (hs y (by simp[hy])))
  rw[List.length_erase_of_mem hx] at h1;have:0<m.length:=List.length_pos_of_mem hx;rw[List.length_cons];omega
end Go.Vx
namespace Go.Proofs.YtphkconoooeidaaGreatDoor
theorem kG {α:Type} {L:Lay α} {t e:TypeId} {z:Value} {b:Nat} (ht:prog.underlying t=some (.slice e)) (h:(prog.info? e).map (λi=>(i.zero,i.size,i.bytes))=some (some z,L.sz,b)) (hz:z.cells.size=L.sz) (hb:b<=1000):Kind prog L t e:=by
 refine⟨ht,?_⟩
 cases hq:prog.info? e with
 |none=>rw[hq] at h;simp at h
 |some i=>
  rw[hq] at h;simp only[Option.map_some,Option.some.injEq,Prod.mk.injEq] at h;exact⟨i,z,rfl,h.1,h.2.1,Zo,hz⟩
theorem bu {α:Type} {L:Lay α} {w:World} {base:Nat} {e:TypeId} {v:Value} {xs:List α} (h:ai L w base e v xs) {k:Nat} (hk:v.ownBlock=some k):∃cur,w.heap[k]?=some (.cells cur e (0,0)):=by
 rcases h.2 with⟨hv,_⟩|⟨g,cap,cur,hv,_,hg,_⟩
 ·rw[hv] at hk;cases hk
 ·rw[hv] at hk;have:g=k:=by simpa[Value.ownBlock] using hk
  subst this;exact⟨cur,hg⟩
theorem cE {w:World} {j k:Nat} {c d:Array Value} {t u:TypeId} (h:w.heap[j]?=some (.cells c t (0,0))) (h':w.heap[k]?=some (.cells d u (0,0))) (hn:t≠u):j≠k:=by
 rintro rfl;rw[h] at h';injection h' with h'
 injection h' with _ h'
 exact hn h'
theorem uM {w w3:World} {v v':Value} (h:v'.ownBlock=v.ownBlock\/∃g,v'.ownBlock=some g/\w.heap.size<=g/\Zq w w3):∀k,v'.ownBlock=some k->v.ownBlock=some k\/w.heap.size<=k:=by
 intro k hk;rcases h with h|⟨g,h,hg,_⟩
 ·rw[h] at hk;exact Or.inl hk
 ·rw[h] at hk;injection hk with hk
  subst hk;exact Or.inr hg
theorem aah {α:Type} {L:Lay α} {w:World} {base:Nat} {e:TypeId} {v:Value} {xs:List α} (h:ai L w base e v xs):ai L w 0 e v xs:=
 ⟨h.1,h.2.imp (λh=>h) (λ⟨g,cap,cur,a,b,c⟩=>⟨g,cap,cur,a,Nat.zero_le _,c⟩)⟩
theorem cH {α:Type} {L:Lay α} {w:World} {base:Nat} {e:TypeId} {v:Value} {xs:List α} (h:ai L w base e v xs) {k:Nat} (hk:v.ownBlock=some k):base<=k/\k<w.heap.size:=World.ownsRow.lt h k hk
theorem ae.keep {S:Nat->Prop} {w w2:World} (h:ae S w w2) {b:Nat} {o:Obj} (hb:w.heap[b]?=some o) (hS:¬S b):w2.heap[b]?=some o:=by rw[h.block b (au hb) hS];exact hb
theorem CZ {w:World} {base g c m:Nat} {T:TypeId} {xs:List Sl} (h:ai aJ w base T (Zs g m c) xs) (hm:m=xs.length) (k:Nat) (hk:k<xs.length) (y:Sl):
  ai aJ ((w.setCell ⟨g,k*2,none⟩ (Zi y.1)).setCell ⟨g,k*2+1,none⟩ (Zi y.2)) base T (Zs g m c) (xs.set k y)/\ae (λb=>b=g) w ((w.setCell ⟨g,k*2,none⟩ (Zi y.1)).setCell ⟨g,k*2+1,none⟩ (Zi y.2)):=by
 subst hm;have h0:=(World.ownsRow.stored h (k*2) (Zi y.1)).1;have h1:=(World.ownsRow.stored h0 (k*2+1) (Zi y.2)).1;have o1:ae (λb=>b=g) w (w.setCell ⟨g,k*2,none⟩ (Zi y.1)):=ae.setCell (S:=λb=>b=g) (ae.refl _ w) (Or.inl rfl) _;have o2:=ae.setCell (S:=λb=>b=g) o1 (p:=⟨g,k*2+1,none⟩) (Or.inl rfl) (Zi y.2);refine⟨?_,o2⟩
 have hz:((fl aJ xs).set (k*2) (Zi y.1)).set (k*2+1) (Zi y.2)=fl aJ (xs.set k y):=by
  refine AT aJ xs k y hk _ (by simp) (λj hj=>?_) (λi hi=>?_)
  ·have wJ:j<2:=hj;have hlen:(fl aJ xs).length=xs.length*2:=j8 aJ xs;have jD:aJ.sz=2:=rfl;rw[jD,List.getElem?_set,List.getElem?_set];rcases(by omega:j=0\/j=1) with rfl|rfl
   ·rw[if_neg Zo,if_pos Zo,if_pos (by rw[hlen];omega)];rfl
   ·rw[if_pos Zo,if_pos (by rw[List.length_set,hlen];omega)];rfl
  ·have jD:aJ.sz=2:=rfl;rw[jD] at hi;rw[List.getElem?_set,List.getElem?_set,if_neg Zo,if_neg Zo]
 rw[hz] at h1;show World.ownsRow _ _ _ _ _ (xs.set k y).length _;rw[List.length_set];exact h1
def cO:Lay Int:=⟨λx=>[Zi x],1,λ_=>rfl,λa u hu=>by simp only[List.mem_cons,List.not_mem_nil,or_false] at hu;subst hu;rfl,Zd⟩
def zk {α:Type} (L:Lay α) (w:World) (v:Value) (xs:List α):Prop:=∃p c,v=.slice p xs.length c/\xs.length<=10000000/\∀(k:Nat) (hk:k<xs.length),∃g,p=some ⟨g,0,none⟩/\∀j,j<L.sz->w.cell? ⟨g,k*L.sz+j,none⟩=(L.cf xs[k])[j]?
theorem uI {α:Type} {L:Lay α} {w:World} {base:Nat} {e:TypeId} {v:Value} {xs:List α} (h:ai L w base e v xs) (hn:xs.length<=10000000):zk L w v xs:=by
 obtain⟨p,c,rfl,_,_,hg⟩:=h.form;refine⟨p,c,rfl,hn,λk hk=>?_⟩;obtain⟨g,rfl,_⟩:=hg Zo;exact⟨g,rfl,λj hj=>h.cell k j hk hj⟩
end Go.Proofs.YtphkconoooeidaaGreatDoor

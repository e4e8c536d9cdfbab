import Derived.Test.YtphkconoooeidaaGreatDoorCp34
import Derived.Test.YtphkconoooeidaaGreatDoorCp35
import Derived.Test.YtphkconoooeidaaGreatDoorCp36
set_option maxRecDepth 100000
set_option maxHeartbeats 8000000
set_option linter.unusedVariables false
set_option linter.unusedSimpArgs false
open Go Go.Vx Go.Proofs.Tryz Go.ChangeShapes Go.WideShapes Go.ChangeAt Go.RowKit
namespace Go.Proofs.YtphkconoooeidaaGreatDoor
section
variable {b kb mb sb pb qb bb tb rk rm rs rp rq rb bk:Nat} {F:Nat->Prop} {K:Kn} {L:Nat->List Sh} {w w2:World}
def Ub (b:Nat) (w:World) (k:Nat):Prop:=b<=k/\k<w.heap.size
theorem Ub.up {k:Nat} (h:Ub b w k) (hs:w.heap.size<=w2.heap.size):Ub b w2 k:=⟨h.1,Nat.lt_of_lt_of_le h.2 hs⟩
theorem Ub.cut {k:Nat} (h:Ub b w2 k):Ub b w k\/(w.heap.size<=k/\k<w2.heap.size):=by
 by_cases hk:k<w.heap.size
 ·exact Or.inl ⟨h.1,hk⟩
 ·exact Or.inr ⟨Zo,h.2⟩
structure eS (b kb mb sb pb qb bb tb rk rm rs rp rq rb:Nat) (K:Kn) (bk:Nat) (F:Nat->Prop) (L:Nat->List Sh) (w:World):Prop where
 x:ax (Ub b w) w kb mb sb pb qb bb tb K
 r:fF (Ub b w) w rk rm rs rp rq rb K
 q:∃B cs V,gI B w bk 0 49 cs V L/\∀k,B k->Ub b w k/\¬F k
 k:Ub b w bk
 f:∀k,F k->Ub b w k/\k≠bk
theorem eS.parts (h:eS b kb mb sb pb qb bb tb rk rm rs rp rq rb K bk F L w) {S:Nat->Prop} (ho:ae S w w2) (hS:∀k,S k->b<=k):ax (Ub b w2) w2 kb mb sb pb qb bb tb K/\fF (Ub b w2) w2 rk rm rs rp rq rb K:=by
 obtain⟨vT,hr⟩:=h.r;exact⟨aD.bj _ _ _ S w w2 h.x ho (λk hk h1=>⟨hS k h1,hk⟩) (λk hk=>hk.cut),vT,aD.bj _ _ _ S w w2 hr ho (λk hk h1=>⟨hS k h1,hk⟩) (λk hk=>hk.cut)⟩
theorem eS.bV (h:eS b kb mb sb pb qb bb tb rk rm rs rp rq rb K bk F L w) (ho:Zq w w2) (hb:b<=w.heap.size):eS b kb mb sb pb qb bb tb rk rm rs rp rq rb K bk (λk=>F k\/(w.heap.size<=k/\k<w2.heap.size)) L w2:=by
 obtain⟨hx,hr⟩:=h.parts ho (λ_ h=>h.elim);obtain⟨B,cs,V,hq,hB⟩:=h.q;refine⟨hx,hr,⟨B,cs,V,hq.only ho (λ_ _ h=>h) (λh=>h),λk hk=>⟨(hB k hk).1.up ho.size,λh1=>?_⟩⟩,h.k.up ho.size,λk hk=>?_⟩
 ·rcases h1 with h1|h1
  ·exact(hB k hk).2 h1
  ·have:=(hB k hk).1.2;omega
 ·rcases hk with hk|hk
  ·exact⟨(h.f k hk).1.up ho.size,(h.f k hk).2⟩
  ·exact⟨⟨Zo,hk.2⟩,by have:=h.k.2;omega⟩
theorem eS.thin (h:eS b kb mb sb pb qb bb tb rk rm rs rp rq rb K bk F L w) {G:Nat->Prop} (hG:∀k,G k->F k):eS b kb mb sb pb qb bb tb rk rm rs rp rq rb K bk G L w:=by
 obtain⟨B,cs,V,hq,hB⟩:=h.q;exact⟨h.x,h.r,⟨B,cs,V,hq,λk hk=>⟨(hB k hk).1,λh1=>(hB k hk).2 (hG k h1)⟩⟩,h.k,λk hk=>h.f k (hG k hk)⟩
theorem eS.quiet (h:eS b kb mb sb pb qb bb tb rk rm rs rp rq rb K bk F L w) (ho:Zq w w2) (hb:b<=w.heap.size):eS b kb mb sb pb qb bb tb rk rm rs rp rq rb K bk F L w2:=(h.bV ho hb).thin (λ_ h=>Or.inl h)
theorem eS.le (h:eS b kb mb sb pb qb bb tb rk rm rs rp rq rb K bk F L w):b<=w.heap.size:=Nat.le_of_lt (Nat.lt_of_le_of_lt h.k.1 h.k.2)
theorem eS.reads (h:eS b kb mb sb pb qb bb tb rk rm rs rp rq rb K bk F L w) (hl:∀j,j<6->(L j).length<=1000000):Zk 36 #[Zp bk] w λe w'=>Zr e (.bool true)/\w'=w:=by
 obtain⟨B,cs,V,hq,hB⟩:=h.q;exact Y4 hq hl
theorem eS.aau (h:eS b kb mb sb pb qb bb tb rk rm rs rp rq rb K bk F L w) (aR:(L 0).length<=1000000) {base:Nat} {l:Value} {ms:List Int} (hl:ai cO w base 3 l ms) (hm:ms.length<=2000000) (iP:∀k,l.ownBlock=some k->F k):
  Zk 81 #[Zp bk,l] w λe w'=>Zr e (.tuple #[])/\∃s1 s2,eS b kb mb sb pb qb bb tb rk rm rs rp rq rb K bk (λk=>F k/\l.ownBlock≠some k) (fh L 0 (L 0++[s1,s2])) w'/\ae (λk=>l.ownBlock=some k\/(b<=k/\¬F k)) w w':=by
 obtain⟨B,cs,V,hq,hB⟩:=h.q;have ie:=h.k;have kJ:¬F bk:=λh1=>(h.f bk h1).2 rfl
 have wN:0<=w.heap.size:=Nat.zero_le _;refine(aat hq aR (s9 hl (Nat.zero_le _)) wN hm (λk hk=>⟨λh1=>(hB k h1).2 (iP k hk),(h.f k (iP k hk)).2⟩)).m ?_;rintro e w' ⟨rfl,jd,v2,s1,s2,hb,_,ho⟩
 have hS:∀k,B k\/l.ownBlock=some k\/k=bk->b<=k:=λk hk=>by
  rcases hk with hk|hk|hk
  ·exact(hB k hk).1.1
  ·exact(h.f k (iP k hk)).1.1
  ·rw[hk];exact ie.1
 obtain⟨hx,hr⟩:=h.parts ho hS;refine⟨rfl,s1,s2,⟨hx,hr,⟨_,jd,_,hb,λk hk=>?_⟩,ie.up ho.size,λk hk=>⟨(h.f k hk.1).1.up ho.size,(h.f k hk.1).2⟩⟩,ho.mono (λk _ hk=>?_)⟩
 ·rcases hk with hk|hk|hk
  ·exact⟨(hB k hk).1.up ho.size,λh1=>(hB k hk).2 h1.1⟩
  ·exact⟨(h.f k (iP k hk)).1.up ho.size,λh1=>h1.2 hk⟩
  ·exact⟨⟨Nat.le_trans h.le hk.1,hk.2⟩,λh1=>by have:=(h.f k h1.1).1.2;omega⟩
 ·rcases hk with hk|hk|hk
  ·exact Or.inr ⟨(hB k hk).1.1,(hB k hk).2⟩
  ·exact Or.inl hk
  ·rw[hk];exact Or.inr ⟨ie.1,kJ⟩
theorem eS.aas (h:eS b kb mb sb pb qb bb tb rk rm rs rp rq rb K bk F L w) (aR:(L 2).length<=1000000) {base:Nat} {l:Value} {ms:List (Int×Int×Int)} (hl:ai mj w base 232 l ms) (hm:ms.length<=2000000) (iP:∀k,l.ownBlock=some k->F k):
  Zk 87 #[Zp bk,l] w λe w'=>Zr e (.tuple #[])/\∃s1 s2,eS b kb mb sb pb qb bb tb rk rm rs rp rq rb K bk (λk=>F k/\l.ownBlock≠some k) (fh L 2 (L 2++[s1,s2])) w'/\ae (λk=>l.ownBlock=some k\/(b<=k/\¬F k)) w w':=by
 obtain⟨B,cs,V,hq,hB⟩:=h.q;have ie:=h.k;have kJ:¬F bk:=λh1=>(h.f bk h1).2 rfl
 have wN:0<=w.heap.size:=Nat.zero_le _;refine(aar hq aR (s9 hl (Nat.zero_le _)) wN hm (λk hk=>⟨λh1=>(hB k h1).2 (iP k hk),(h.f k (iP k hk)).2⟩)).m ?_;rintro e w' ⟨rfl,jd,v2,s1,s2,hb,_,ho⟩
 have hS:∀k,B k\/l.ownBlock=some k\/k=bk->b<=k:=λk hk=>by
  rcases hk with hk|hk|hk
  ·exact(hB k hk).1.1
  ·exact(h.f k (iP k hk)).1.1
  ·rw[hk];exact ie.1
 obtain⟨hx,hr⟩:=h.parts ho hS;refine⟨rfl,s1,s2,⟨hx,hr,⟨_,jd,_,hb,λk hk=>?_⟩,ie.up ho.size,λk hk=>⟨(h.f k hk.1).1.up ho.size,(h.f k hk.1).2⟩⟩,ho.mono (λk _ hk=>?_)⟩
 ·rcases hk with hk|hk|hk
  ·exact⟨(hB k hk).1.up ho.size,λh1=>(hB k hk).2 h1.1⟩
  ·exact⟨(h.f k (iP k hk)).1.up ho.size,λh1=>h1.2 hk⟩
  ·exact⟨⟨Nat.le_trans h.le hk.1,hk.2⟩,λh1=>by have:=(h.f k h1.1).1.2;omega⟩
 ·rcases hk with hk|hk|hk
  ·exact Or.inr ⟨(hB k hk).1.1,(hB k hk).2⟩
  ·exact Or.inl hk
  ·rw[hk];exact Or.inr ⟨ie.1,kJ⟩
theorem eS.aaq (h:eS b kb mb sb pb qb bb tb rk rm rs rp rq rb K bk F L w) (aR:(L 3).length<=1000000) {base:Nat} {l:Value} {ms:List Sl} (hl:ai aJ w base 85 l ms) (hm:ms.length<=2000000) (iP:∀k,l.ownBlock=some k->F k):
  Zk 30 #[Zp bk,l] w λe w'=>Zr e (.tuple #[])/\∃s1 s2,eS b kb mb sb pb qb bb tb rk rm rs rp rq rb K bk (λk=>F k/\l.ownBlock≠some k) (fh L 3 (L 3++[s1,s2])) w'/\ae (λk=>l.ownBlock=some k\/(b<=k/\¬F k)) w w':=by
 obtain⟨B,cs,V,hq,hB⟩:=h.q;have ie:=h.k;have kJ:¬F bk:=λh1=>(h.f bk h1).2 rfl
 have wN:0<=w.heap.size:=Nat.zero_le _;refine(aap hq aR (s9 hl (Nat.zero_le _)) wN hm (λk hk=>⟨λh1=>(hB k h1).2 (iP k hk),(h.f k (iP k hk)).2⟩)).m ?_;rintro e w' ⟨rfl,jd,v2,s1,s2,hb,_,ho⟩
 have hS:∀k,B k\/l.ownBlock=some k\/k=bk->b<=k:=λk hk=>by
  rcases hk with hk|hk|hk
  ·exact(hB k hk).1.1
  ·exact(h.f k (iP k hk)).1.1
  ·rw[hk];exact ie.1
 obtain⟨hx,hr⟩:=h.parts ho hS;refine⟨rfl,s1,s2,⟨hx,hr,⟨_,jd,_,hb,λk hk=>?_⟩,ie.up ho.size,λk hk=>⟨(h.f k hk.1).1.up ho.size,(h.f k hk.1).2⟩⟩,ho.mono (λk _ hk=>?_)⟩
 ·rcases hk with hk|hk|hk
  ·exact⟨(hB k hk).1.up ho.size,λh1=>(hB k hk).2 h1.1⟩
  ·exact⟨(h.f k (iP k hk)).1.up ho.size,λh1=>h1.2 hk⟩
  ·exact⟨⟨Nat.le_trans h.le hk.1,hk.2⟩,λh1=>by have:=(h.f k h1.1).1.2;omega⟩
 ·rcases hk with hk|hk|hk
  ·exact Or.inr ⟨(hB k hk).1.1,(hB k hk).2⟩
  ·exact Or.inl hk
  ·rw[hk];exact Or.inr ⟨ie.1,kJ⟩
theorem eS.aaw (h:eS b kb mb sb pb qb bb tb rk rm rs rp rq rb K bk F L w) (aR:(L 4).length<=1000000) {base:Nat} {l:Value} {ms:List En} (hl:ai dP w base 208 l ms) (hm:ms.length<=2000000) (iP:∀k,l.ownBlock=some k->F k):
  Zk 29 #[Zp bk,l] w λe w'=>Zr e (.tuple #[])/\∃s1 s2,eS b kb mb sb pb qb bb tb rk rm rs rp rq rb K bk (λk=>F k/\l.ownBlock≠some k) (fh L 4 (L 4++[s1,s2])) w'/\ae (λk=>l.ownBlock=some k\/(b<=k/\¬F k)) w w':=by
 obtain⟨B,cs,V,hq,hB⟩:=h.q;have ie:=h.k;have kJ:¬F bk:=λh1=>(h.f bk h1).2 rfl
 have wN:0<=w.heap.size:=Nat.zero_le _;refine(aav hq aR (s9 hl (Nat.zero_le _)) wN hm (λk hk=>⟨λh1=>(hB k h1).2 (iP k hk),(h.f k (iP k hk)).2⟩)).m ?_;rintro e w' ⟨rfl,jd,v2,s1,s2,hb,_,ho⟩
 have hS:∀k,B k\/l.ownBlock=some k\/k=bk->b<=k:=λk hk=>by
  rcases hk with hk|hk|hk
  ·exact(hB k hk).1.1
  ·exact(h.f k (iP k hk)).1.1
  ·rw[hk];exact ie.1
 obtain⟨hx,hr⟩:=h.parts ho hS;refine⟨rfl,s1,s2,⟨hx,hr,⟨_,jd,_,hb,λk hk=>?_⟩,ie.up ho.size,λk hk=>⟨(h.f k hk.1).1.up ho.size,(h.f k hk.1).2⟩⟩,ho.mono (λk _ hk=>?_)⟩
 ·rcases hk with hk|hk|hk
  ·exact⟨(hB k hk).1.up ho.size,λh1=>(hB k hk).2 h1.1⟩
  ·exact⟨(h.f k (iP k hk)).1.up ho.size,λh1=>h1.2 hk⟩
  ·exact⟨⟨Nat.le_trans h.le hk.1,hk.2⟩,λh1=>by have:=(h.f k h1.1).1.2;omega⟩
 ·rcases hk with hk|hk|hk
  ·exact Or.inr ⟨(hB k hk).1.1,(hB k hk).2⟩
  ·exact Or.inl hk
  ·rw[hk];exact Or.inr ⟨ie.1,kJ⟩
theorem eS.aao (h:eS b kb mb sb pb qb bb tb rk rm rs rp rq rb K bk F L w) (aR:(L 5).length<=1000000) {base:Nat} {l:Value} {ms:List Tl} (hl:ai eu w base 203 l ms) (hm:ms.length<=2000000) (iP:∀k,l.ownBlock=some k->F k):
  Zk 28 #[Zp bk,l] w λe w'=>Zr e (.tuple #[])/\∃s1 s2,eS b kb mb sb pb qb bb tb rk rm rs rp rq rb K bk (λk=>F k/\l.ownBlock≠some k) (fh L 5 (L 5++[s1,s2])) w'/\ae (λk=>l.ownBlock=some k\/(b<=k/\¬F k)) w w':=by
 obtain⟨B,cs,V,hq,hB⟩:=h.q;have ie:=h.k;have kJ:¬F bk:=λh1=>(h.f bk h1).2 rfl
 have wN:0<=w.heap.size:=Nat.zero_le _;refine(aan hq aR (s9 hl (Nat.zero_le _)) wN hm (λk hk=>⟨λh1=>(hB k h1).2 (iP k hk),(h.f k (iP k hk)).2⟩)).m ?_;rintro e w' ⟨rfl,jd,v2,s1,s2,hb,_,ho⟩
 have hS:∀k,B k\/l.ownBlock=some k\/k=bk->b<=k:=λk hk=>by
  rcases hk with hk|hk|hk
  ·exact(hB k hk).1.1
  ·exact(h.f k (iP k hk)).1.1
  ·rw[hk];exact ie.1
 obtain⟨hx,hr⟩:=h.parts ho hS;refine⟨rfl,s1,s2,⟨hx,hr,⟨_,jd,_,hb,λk hk=>?_⟩,ie.up ho.size,λk hk=>⟨(h.f k hk.1).1.up ho.size,(h.f k hk.1).2⟩⟩,ho.mono (λk _ hk=>?_)⟩
 ·rcases hk with hk|hk|hk
  ·exact⟨(hB k hk).1.up ho.size,λh1=>(hB k hk).2 h1.1⟩
  ·exact⟨(h.f k (iP k hk)).1.up ho.size,λh1=>h1.2 hk⟩
  ·exact⟨⟨Nat.le_trans h.le hk.1,hk.2⟩,λh1=>by have:=(h.f k h1.1).1.2;omega⟩
 ·rcases hk with hk|hk|hk
  ·exact Or.inr ⟨(hB k hk).1.1,(hB k hk).2⟩
  ·exact Or.inl hk
  ·rw[hk];exact Or.inr ⟨ie.1,kJ⟩
end
section
variable {b kb mb sb pb qb bb tb rk rm rs rp rq rb bk:Nat} {F:Nat->Prop} {K:Kn} {L:Nat->List Sh} {w w1 w2 w3 wr:World} {n:Nat}
def bt (b kb mb sb pb qb bb tb rk rm rs rp rq rb:Nat) (K:Kn) (bk:Nat) (F:Nat->Prop) (L:Nat->List Sh) (n:Nat) (w wr:World):Prop:=∃L2:Nat->List Sh,(∀j,(L2 j).length<=(L j).length+n)/\eS b kb mb sb pb qb bb tb rk rm rs rp rq rb K bk F L2 wr/\ae (λk=>b<=k/\¬F k) w wr
theorem bt.start (h:eS b kb mb sb pb qb bb tb rk rm rs rp rq rb K bk F L w):bt b kb mb sb pb qb bb tb rk rm rs rp rq rb K bk F L 0 w w:=⟨L,λ_=>Nat.le_refl _,h,ae.refl _ _⟩
theorem bt.la (h:bt b kb mb sb pb qb bb tb rk rm rs rp rq rb K bk F L n w wr):∃L2,eS b kb mb sb pb qb bb tb rk rm rs rp rq rb K bk F L2 wr:=by
 obtain⟨L2,_,h,_⟩:=h;exact⟨L2,h⟩
theorem bt.x (h:bt b kb mb sb pb qb bb tb rk rm rs rp rq rb K bk F L n w wr):ax (Ub b wr) wr kb mb sb pb qb bb tb K:=by
 obtain⟨L2,h⟩:=h.la;exact h.x
theorem bt.r (h:bt b kb mb sb pb qb bb tb rk rm rs rp rq rb K bk F L n w wr):fF (Ub b wr) wr rk rm rs rp rq rb K:=by
 obtain⟨L2,h⟩:=h.la;exact h.r
theorem bt.quiet (h:bt b kb mb sb pb qb bb tb rk rm rs rp rq rb K bk F L n w wr) (ho:Zq wr w2):bt b kb mb sb pb qb bb tb rk rm rs rp rq rb K bk F L n w w2:=by
 obtain⟨L2,h1,h2,h3⟩:=h;exact⟨L2,h1,h2.quiet ho h2.le,h3.trans (ho.f)⟩
theorem bt.ints (h:bt b kb mb sb pb qb bb tb rk rm rs rp rq rb K bk F L n w wr) (hL:(L 0).length+n<=1000000) (ho:Zq wr w1) (aC:Zq w1 w2) {v:Value} {l:List Int} (hv:ai cO w1 wr.heap.size 3 v l) (hn:l.length<=2000000):
  Zk 81 #[Zp bk,v] w2 λe w'=>Zr e (.tuple #[])/\Hid (bt b kb mb sb pb qb bb tb rk rm rs rp rq rb K bk F L (n+2) w w'):=by
 obtain⟨L2,h1,h2,h3⟩:=h;have h4:=(h2.bV ho h2.le).quiet aC (Nat.le_trans h2.le ho.size);have iP:∀k,v.ownBlock=some k->F k\/(wr.heap.size<=k/\k<w1.heap.size):=λk hk=>Or.inr (cH hv hk)
 refine(h4.aau (by have:=h1 0;omega) (hv.kept aC (λ_ _ h=>h)) hn iP).m ?_;rintro e w' ⟨rfl,s1,s2,h5,h6⟩;refine⟨rfl,_,λj=>?_,h5.thin (λk hk=>⟨Or.inl hk,λe=>?_⟩),?_⟩
 ·have:=h1 j;unfold fh
  split
  ·rename_i hj;subst hj;simp;omega
  ·omega
 ·have:=(cH hv e).1;have:=(h2.f k hk).1.2;omega
 ·have h7:ae (λk=>b<=k/\¬F k) wr w2:=(ho.trans aC).f
  have h8:ae (λk=>b<=k/\¬F k) w2 w':=h6.mono (λk _ hk=>by
   rcases hk with hk|hk
   ·have h9:=cH hv hk;exact⟨Nat.le_trans h2.le h9.1,λhF=>by have:=(h2.f k hF).1.2;omega⟩
   ·exact⟨hk.1,λhF=>hk.2 (Or.inl hF)⟩)
  exact(h3.trans h7).trans h8
theorem ab5 {es:List Et} {d p:Int} {l:List Int} (h:NQ es d p l):l.length<=es.length:=by
 obtain⟨xs,hx,rfl⟩:=h;rw[List.length_map,hx.1.length_eq];exact List.length_filter_le _ _
theorem bt.queue (h:bt b kb mb sb pb qb bb tb rk rm rs rp rq rb K bk F L n w wr) {i p:Nat} (hi:i<8) (hp:p<8):Zk 78 #[Zp kb,Zi (i:Int),Zi (p:Int)] wr λe w'=>∃v l,Zr e (.tuple #[v,Zi 0])/\ai cO w' wr.heap.size 3 v l/\NQ K.ss i p l/\Zq wr w':=by
 have hx:=h.x;obtain⟨U2,G,hg⟩:=hx.sched;refine adg _ _ hx.c3 ((Vs hg i p).m ?_) ?_
 ·rintro e w' ⟨⟨a,rfl⟩|⟨a,v,l,rfl,b1,c⟩,ho⟩
  ·exfalso;unfold xM at a;rw[if_neg Zo] at a;cases a
  ·exact⟨v,l,rfl,b1,c,ho⟩
 ·rintro e w' ⟨v,l,rfl,_⟩;exact⟨_,_,rfl⟩
theorem bt.Yk (h:bt b kb mb sb pb qb bb tb rk rm rs rp rq rb K bk F L n w wr) {i p:Nat} (hi:i<8) (hp:p<8):Zk 79 #[Zp rq,Zi (i:Int),Zi (p:Int)] wr λe w'=>∃v l,Zr e (.tuple #[v,Zi 0])/\ai cO w' wr.heap.size 3 v l/\NQ K.ss i p l/\Zq wr w':=by
 obtain⟨vT,hr⟩:=h.r;obtain⟨U2,vt,vl,hg⟩:=hr.sched;refine(Xo hg i p).m ?_;rintro e w' ⟨⟨a,rfl⟩|⟨a,v,xs,rfl,b1,c⟩,ho⟩
 ·exfalso;unfold xM at a;rw[if_neg Zo] at a;cases a
 ·exact⟨v,_,rfl,b1,⟨xs,c,rfl⟩,ho⟩
end
section
variable {b kb mb sb pb qb bb tb rk rm rs rp rq rb bk:Nat} {F:Nat->Prop} {K:Kn} {L:Nat->List Sh} {w w1 w2 w3 wr:World} {n:Nat} {vT:Value} {U:Nat->Prop}
theorem S4:∀(Ls:List Ln) (i q:Nat),i<Ls.length->q<4->(Ls.flatMap eE)[i*4+q]?=(eE (Ls.getD i .df))[q]?
 |[],i,q,h,_=>by cases h
 |l::r,0,q,_,hq=>by
  rw[List.flatMap_cons,Nat.zero_mul,Nat.zero_add,List.getElem?_append_left (show q<(eE l).length from hq)]
  rfl
 |l::r,i+1,q,h,hq=>by
  rw[List.flatMap_cons,List.getElem?_append_right (show(eE l).length<=(i+1)*4+q from by show 4<=_;omega),show(i+1)*4+q - (eE l).length=i*4+q from by show _ - 4=_;omega,S4 r i q (by simpa using h) hq];rfl
theorem Qe (Ls:List Ln):(Ls.flatMap eE).length=Ls.length*4:=by
 induction Ls with
 |nil=>rfl
 |cons l r ih=>rw[List.flatMap_cons,List.length_append,ih,List.length_cons];show 4+_=_;omega
theorem aI.ln (h:aI U w rk rm rs rp rq rb vT K) {i q:Nat} (hi:i<K.L.length) (hq:q<4):w.cell? ⟨rk,6+i*4+q,none⟩=(eE (K.L.getD i .df))[q]?:=by
 rw[cell_of_row _ _ (6+i*4+q) _ _ (0,0) h.k,List.getElem?_toArray];unfold AX;rw[List.getElem?_append_right (by simp;omega),List.getElem?_append_left (by rw[Qe];simp;omega),<-S4 _ _ _ hi hq];congr 1;simp;omega
theorem aI.io (h:aI U w rk rm rs rp rq rb vT K) (hl:K.L.length=8) (iR:K.ci=List.replicate 8 []) (Hd:K.co=List.replicate 8 []) {i:Nat} (hi:i<8):w.cell? ⟨rk,38+i,none⟩=some (fG [])/\w.cell? ⟨rk,46+i,none⟩=some (fG []):=by
 have e1:(K.L.flatMap eE).length=32:=by rw[Qe,hl]
 rw[cell_of_row _ _ (38+i) _ _ (0,0) h.k,cell_of_row _ _ (46+i) _ _ (0,0) h.k,List.getElem?_toArray,List.getElem?_toArray];unfold AX;rw[iR,Hd];constructor
 ·rw[List.getElem?_append_right (by simp;omega),List.getElem?_append_right (by rw[e1];simp;omega),List.getElem?_append_left (by rw[e1];simp;omega),e1,List.map_replicate,List.getElem?_replicate,if_pos (by simp;omega)]
 ·rw[List.getElem?_append_right (by simp;omega),List.getElem?_append_right (by rw[e1];simp;omega),List.getElem?_append_right (by rw[e1];simp;omega),List.getElem?_append_left (by rw[e1];simp;omega),e1,List.map_replicate,List.getElem?_replicate,if_pos (by simp;omega)]
theorem ac3 (h:eS b kb mb sb pb qb bb tb rk rm rs rp rq rb K bk F L w) (hw:aE K) (hL:(L 0).length+16<=1000000) {i:Nat} (hi:i<8):Zk 34 #[Zp kb,Zp rk,Zi (i:Int),Zp bk] w λe w'=>Zr e (.bool true)/\bt b kb mb sb pb qb bb tb rk rm rs rp rq rb K bk F L 16 w w':=by
 have H0:=aa (bt.start h);have nP:=aa hL;have HW:=aa hw;have bf:0<=(i:Int)/\(i:Int)<8:=Zo;have Uz:=aa (adm h.x hw.ll hi)
 have ar:Hid (∀n wv,bt b kb mb sb pb qb bb tb rk rm rs rp rq rb K bk F L n w wv->wv.cell? ⟨rk,6+i*4,none⟩=some (Zi (K.L.getD i .df).dj)/\wv.cell? ⟨rk,6+i*4+1,none⟩=some (Zu (K.L.getD i .df).jW)/\wv.cell? ⟨rk,6+i*4+2,none⟩=some (.bool (K.L.getD i .df).pL)/\wv.cell? ⟨rk,6+i*4+3,none⟩=some (.bool (K.L.getD i .df).pd)/\wv.cell? ⟨rk,38+i,none⟩=some (fG [])/\wv.cell? ⟨rk,46+i,none⟩=some (fG [])/\wv.cell? ⟨rk,3,none⟩=some (Zp rq)):=λn wv h=>by
  obtain⟨vT,hr⟩:=h.r;have h8:=HW.j.ll;have bM:i<K.L.length:=Zo;exact⟨(hr.ln bM (q:=0) Zd).trans rfl,(hr.ln bM (q:=1) Zd).trans rfl,(hr.ln bM (q:=2) Zd).trans rfl,(hr.ln bM (q:=3) Zd).trans rfl,(hr.io h8 HW.j.li HW.j.lo hi).1,(hr.io h8 HW.j.li HW.j.lo hi).2,hr.c3⟩
 have TW:Hid (∀n wv,bt b kb mb sb pb qb bb tb rk rm rs rp rq rb K bk F L n w wv->Zk 77 #[Zp kb,Zi (i:Int)] wv λe w'=>Zr e (.tuple #[fG [],fG [],Zi 0])/\Zq wv w'):=λn wv h=>ada h.x HW.j.ll HW.j.li HW.j.lo hi
 generalize (K.L.getD i .df).dj=z0 at*;generalize (K.L.getD i .df).jW=z1 at*;generalize (K.L.getD i .df).pL=z2 at*;generalize (K.L.getD i .df).pd=z3 at*;clear h hw hL;go_enter func34,ntmps34;go_wp2_with fail;refine Uz.j.m ?_;rintro e w1 ⟨rfl,aB⟩;have H1:=aa (H0.j.quiet aB);clear aB Uz H0;obtain⟨c0,c1,c2,c3,_,_,_⟩:=ar.j _ _ H1.j;go_upto_region 5 with fail
 generalize aT:w1.alloc _=w2;have H2:Hid (bt b kb mb sb pb qb bb tb rk rm rs rp rq rb K bk F L 0 w w2):=by rw[<-aT];exact H1.j.quiet ((ae.refl _ _).alloc _)
 clear aT H1 c0 c1 c2 c3;go_wp2_with fail;refine(TW.j _ _ H2.j).m ?_;rintro e w3 ⟨rfl,aN⟩;have H3:=aa (H2.j.quiet aN);clear aN TW H2;obtain⟨_,_,_,_,c4,c5,_⟩:=ar.j _ _ H3.j;unfold fG at c4 c5|-;go_upto_region 8 with fail
 clear c4 c5;go_wp2_with fail
 go_loopw [17] (λd wr=>∃p:Nat,d=Zi (p:Int)/\p<=8/\Hid (bt b kb mb sb pb qb bb tb rk rm rs rp rq rb K bk F L (2*p) w wr)) (λd _=>8 - (RowKit.intOf d).toNat)
 case atStart=>exact⟨0,rfl,Zo,H3⟩
 case round=>
  clear H3;obtain⟨p,rfl,hp,HR⟩:=hrel;by_cases ah:p<8
  ·have h1:(p:Int)<8:=Zo;have QW:=Zf p Zo;have HQ:=aa (HR.j.queue hi ah);go_wp2_with fail;refine HQ.j.m ?_;rintro e w4 ⟨v,l,rfl,hv,BT,bL⟩;have H4:=aa (HR.j.quiet bL);have HV:=aa (⟨hv,BT,bL⟩:_/\_/\_);have c3:=(ar.j _ _ H4.j).2.2.2.2.2.2;clear hv BT bL HQ;go_wp2_with fail;refine(H4.j.Yk hi ah).m ?_;rintro e w5 ⟨v5,l5,rfl,Dq,KO,eG⟩;obtain rfl:l=l5:=HV.j.2.1.uniq HW.j.s KO;have Az:l.length<=256:=Nat.le_trans (ab5 KO) HW.j.ns;have HS:=aa (Jh (uI (HV.j.1.kept eG (λ_ _ h=>h)) Zo) (uI Dq Zo));have tX:=aa eG;have cX:=aa Az;clear Dq KO eG c3 Az;go_wp2_with fail;refine HS.j.m ?_;rintro e w6 ⟨rfl,jG⟩;have HB:=aa (HR.j.ints (by have:=nP.j;omega) HV.j.2.2 (tX.j.trans jG) HV.j.1 (by have:=cX.j;omega));clear jG HS tX cX H4;go_wp2_with fail;refine HB.j.m ?_;rintro e w7 ⟨rfl,H7⟩;clear HB HR HV ah;go_wp2_with fail;go_roundw
   case rel=>exact⟨p+1,by go_num,Zo,H7⟩
   case measure=>exact Zm
  ·obtain rfl:p=8:=Zo;have h1:¬((8:Nat):Int)<8:=Zo;clear ah;go_wp2_with fail
   all_goals
    go_ret;exact⟨rfl,HR.j⟩
end
section
variable {b kb mb sb pb qb bb tb rk rm rs rp rq rb bk:Nat} {F:Nat->Prop} {K:Kn} {L:Nat->List Sh} {w w1 w2 w3 wr:World} {n:Nat} {vT:Value} {U:Nat->Prop}
theorem bt.mark (h:bt b kb mb sb pb qb bb tb rk rm rs rp rq rb K bk F L n w wr) (z:Int) (hz:aj z):Zk 82 #[Zp kb,Zi z] wr λe w'=>Zr e (.tuple #[Zi (gL K.rs z).1,Zi (gL K.rs z).2])/\Zq wr w':=by
 have hx:=h.x;obtain⟨U2,hg⟩:=hx.vL;refine adj _ hx.c2 (NH hg z hz) ?_;rintro e w' ⟨rfl,_⟩;exact⟨_,_,rfl⟩
theorem bt.YE (h:bt b kb mb sb pb qb bb tb rk rm rs rp rq rb K bk F L n w wr) (z:Int):Zk 83 #[Zp rp,Zi z] wr λe w'=>Zr e (.tuple #[Zi (gL K.rs z).1,Zi (gL K.rs z).2])/\Zq wr w':=by
 obtain⟨vT,hr⟩:=h.r;obtain⟨U2,vo,vr,hg⟩:=hr.vL;refine(abB hg z).m ?_;rintro e w' ⟨rfl,rfl⟩;exact⟨rfl,ae.refl _ _⟩
theorem bt.size (h:bt b kb mb sb pb qb bb tb rk rm rs rp rq rb K bk F L n w wr) (z:Int) (hz:aj z):Zk 88 #[Zp kb,Zi z] wr λe w'=>Zr e (.tuple #[Zi (jk K.bs z).1,Zi (jk K.bs z).2])/\Zq wr w':=by
 have hx:=h.x;obtain⟨U2,m2,D2,G2,hg,_⟩:=hx.o7;refine adf _ hx.c1 ((Vl hg z hz).m ?_) ?_
 ·rintro e w' ⟨rfl,rfl⟩;exact⟨rfl,ae.refl _ _⟩
 ·rintro e w' ⟨rfl,_⟩;exact⟨_,_,rfl⟩
theorem bt.Yj (h:bt b kb mb sb pb qb bb tb rk rm rs rp rq rb K bk F L n w wr) (z:Int):Zk 89 #[Zp rs,Zi z] wr λe w'=>Zr e (.tuple #[Zi (jk K.bs z).1,Zi (jk K.bs z).2])/\Zq wr w':=by
 obtain⟨vT,hr⟩:=h.r;obtain⟨U2,vb,ve,hg⟩:=hr.o7;refine(Oq hg z).m ?_;rintro e w' ⟨rfl,rfl⟩;exact⟨rfl,ae.refl _ _⟩
theorem bt.word (h:bt b kb mb sb pb qb bb tb rk rm rs rp rq rb K bk F L n w wr) (z:Int) (hz:aj z):Zk 92 #[Zp kb,Zi z] wr λe w'=>Zr e (.tuple #[Zu (qh K.b z),Zi (qi K.b z)])/\Zq wr w':=by
 have hx:=h.x;obtain⟨U2,hg⟩:=hx.tP;refine ad9 _ hx.c4 (Vi hg z hz) ?_;rintro e w' ⟨rfl,_⟩;exact⟨_,_,rfl⟩
theorem bt.OE (h:bt b kb mb sb pb qb bb tb rk rm rs rp rq rb K bk F L n w wr) (z:Int):Zk 93 #[Zp rb,Zi z] wr λe w'=>Zr e (.tuple #[Zu (qh K.b z),Zi (qi K.b z)])/\Zq wr w':=by
 obtain⟨vT,hr⟩:=h.r;obtain⟨U2,vp,vw,hg⟩:=hr.tP;exact XY hg z
theorem bt.line (h:bt b kb mb sb pb qb bb tb rk rm rs rp rq rb K bk F L n w wr) (z:Int) (hz:aj z):Zk 90 #[Zp kb,Zi z] wr λe w'=>∃v,Zr e (.tuple #[v,Zi (ry K.b z)])/\ai cO w' wr.heap.size 3 v (oP K.b z)/\Zq wr w':=by
 have hx:=h.x;obtain⟨U2,hg⟩:=hx.tP;refine adl _ hx.c4 (VH hg z hz) ?_;rintro e w' ⟨v,rfl,_⟩;exact⟨_,_,rfl⟩
theorem bt.OM (h:bt b kb mb sb pb qb bb tb rk rm rs rp rq rb K bk F L n w wr) (z:Int):Zk 91 #[Zp rb,Zi z] wr λe w'=>∃v,Zr e (.tuple #[v,Zi (ry K.b z)])/\ai cO w' wr.heap.size 3 v (oP K.b z)/\Zq wr w':=by
 obtain⟨vT,hr⟩:=h.r;obtain⟨U2,vp,vw,hg⟩:=hr.tP;exact YJ hg z
def xX (K:Kn) (z:Int):List (Int×Int×Int):=if hasB K.n z then gW K.f (gK K.f K.n z.toNat 1024) else []
def BD (K:Kn) (z:Int):Int:=if hasB K.n z then 0 else 1
theorem bt.YF (h:bt b kb mb sb pb qb bb tb rk rm rs rp rq rb K bk F L n w wr) (z:Int):Zk 85 #[Zp rm,Zi z] wr λe w'=>∃v,Zr e (.tuple #[v,Zi (BD K z)])/\lA w' wr.heap.size 232 v (xX K z)/\Zq wr w':=by
 obtain⟨vT,hr⟩:=h.r;obtain⟨bx,hg⟩:=hr.mem;by_cases hb:hasB K.n z=true
 ·have hz:0<=z/\z<(K.n:Int):=by simpa[hasB] using hb
  have h9:=YY (h:=hg) z.toNat Zo;rw[Int.toNat_of_nonneg hz.1] at h9;refine h9.m ?_;rintro e w' ⟨v,rfl,hk⟩;refine⟨v,by unfold BD;rw[if_pos hb],?_,hk.on⟩;unfold xX;rw[if_pos hb];exact hk.o
 ·refine(YZ (h:=hg) z (by simpa using hb)).m ?_;rintro e w' ⟨rfl,ho⟩;refine⟨.slice none 0 0,by unfold BD;rw[if_neg hb],?_,ho⟩;unfold xX;rw[if_neg hb];exact World.ownsRow_nil _ _ _ _
theorem bt.maps (h:bt b kb mb sb pb qb bb tb rk rm rs rp rq rb K bk F L n w wr) (z:Int):Zk 84 #[Zp kb,Zi z] wr λe w'=>∃v,Zr e (.tuple #[v,Zi (BD K z)])/\lA w' wr.heap.size 232 v (xX K z)/\Zq wr w':=by
 have hx:=h.x;obtain⟨U2,hg⟩:=hx.mem;refine adk _ hx.c0 ?_ (by rintro e w' ⟨v,rfl,_⟩;exact⟨_,_,rfl⟩);by_cases hb:hasB K.n z=true
 ·have hz:0<=z/\z<(K.n:Int):=by simpa[hasB] using hb
  have h9:=abE (h:=hg) z.toNat Zo;rw[Int.toNat_of_nonneg hz.1] at h9;refine h9.m ?_;rintro e w' ⟨v,rfl,hk⟩;refine⟨v,by unfold BD;rw[if_pos hb],?_,hk.on⟩;unfold xX;rw[if_pos hb];exact hk.o
 ·refine(abF (h:=hg) z (by simpa using hb)).m ?_;rintro e w' ⟨rfl,ho⟩;refine⟨.slice none 0 0,by unfold BD;rw[if_neg hb],?_,ho⟩;unfold xX;rw[if_neg hb];exact World.ownsRow_nil _ _ _ _
end
section
variable {b kb mb sb pb qb bb tb rk rm rs rp rq rb bk:Nat} {F:Nat->Prop} {K:Kn} {L:Nat->List Sh} {w w1 w2 w3 wr wv:World} {n:Nat} {vT:Value} {U:Nat->Prop}
theorem _root_.Go.Vx.ae.CL {S:Nat->Prop} (h:ae S w.drew w2):ae S w w2:=((ae.refl _ w).drew).trans h
theorem bt.up {m:Nat} (h:bt b kb mb sb pb qb bb tb rk rm rs rp rq rb K bk F L n w wr):bt b kb mb sb pb qb bb tb rk rm rs rp rq rb K bk F L (n+m) w wr:=by
 obtain⟨L2,h1,h2⟩:=h;exact⟨L2,λj=>Nat.le_trans (h1 j) Zo,h2⟩
theorem PS (K:Kn) (z:Int):(xX K z).length<=2000000:=by
 unfold xX
 split
 ·have h1:=JY K.f (gK K.f K.n z.toNat 1024);have h2:=CP K.f K.n z.toNat 1024;omega
 ·simp
theorem bt.mps (h:bt b kb mb sb pb qb bb tb rk rm rs rp rq rb K bk F L n w wr) (hL:(L 2).length+n<=1000000) (ho:Zq wr w1) (aC:Zq w1 w2) {v:Value} {l:List (Int×Int×Int)} (hv:lA w1 wr.heap.size 232 v l) (hn:l.length<=2000000):
  Zk 87 #[Zp bk,v] w2 λe w'=>Zr e (.tuple #[])/\Hid (bt b kb mb sb pb qb bb tb rk rm rs rp rq rb K bk F L (n+2) w w'):=by
 replace hv:ai mj w1 wr.heap.size 232 v l:=hv;obtain⟨L2,h1,h2,h3⟩:=h;have h4:=(h2.bV ho h2.le).quiet aC (Nat.le_trans h2.le ho.size);have iP:∀k,v.ownBlock=some k->F k\/(wr.heap.size<=k/\k<w1.heap.size):=λk hk=>Or.inr (cH hv hk)
 refine(h4.aas (by have:=h1 2;omega) (hv.kept aC (λ_ _ h=>h)) hn iP).m ?_;rintro e w' ⟨rfl,s1,s2,h5,h6⟩;refine⟨rfl,_,λj=>?_,h5.thin (λk hk=>⟨Or.inl hk,λe=>?_⟩),?_⟩
 ·have:=h1 j;unfold fh
  split
  ·rename_i hj;subst hj;simp;omega
  ·omega
 ·have:=(cH hv e).1;have:=(h2.f k hk).1.2;omega
 ·have h7:ae (λk=>b<=k/\¬F k) wr w2:=(ho.trans aC).f
  have h8:ae (λk=>b<=k/\¬F k) w2 w':=h6.mono (λk _ hk=>by
   rcases hk with hk|hk
   ·have h9:=cH hv hk;exact⟨Nat.le_trans h2.le h9.1,λhF=>by have:=(h2.f k hF).1.2;omega⟩
   ·exact⟨hk.1,λhF=>hk.2 (Or.inl hF)⟩)
  exact(h3.trans h7).trans h8
theorem ac4 (s:Bs) (n:Int):(oP s n).length<=s.ws.length:=by
 unfold oP
 split
 ·exact Nat.zero_le _
 ·unfold jS;rw[List.length_map];exact List.length_filter_le _ _
def tT (b kb mb sb pb qb bb tb rk rm rs rp rq rb:Nat) (K:Kn) (bk:Nat) (F:Nat->Prop) (L:Nat->List Sh) (ob:Nat) (kd z:Int) (w wv:World):Prop:=bt b kb mb sb pb qb bb tb rk rm rs rp rq rb K bk F L 0 w wv/\wv.heap[ob]?=some (.cells #[Zi kd,Zi z] 85 (0,0))
variable {ob:Nat} {kd z:Int}
theorem tT.quiet (h:tT b kb mb sb pb qb bb tb rk rm rs rp rq rb K bk F L ob kd z w wv) (ho:Zq wv w2):tT b kb mb sb pb qb bb tb rk rm rs rp rq rb K bk F L ob kd z w w2:=⟨h.1.quiet ho,ae.keep ho h.2 (λh=>h)⟩
theorem tT.drew (h:tT b kb mb sb pb qb bb tb rk rm rs rp rq rb K bk F L ob kd z w wv):tT b kb mb sb pb qb bb tb rk rm rs rp rq rb K bk F L ob kd z w wv.drew:=h.quiet ((ae.refl _ _).drew)
theorem tT.c1 (h:tT b kb mb sb pb qb bb tb rk rm rs rp rq rb K bk F L ob kd z w wv):wv.cell? ⟨ob,1,none⟩=some (Zi z):=Zl h.2
theorem tT.c0 (h:tT b kb mb sb pb qb bb tb rk rm rs rp rq rb K bk F L ob kd z w wv):wv.cell? ⟨ob,0,none⟩=some (Zi kd):=Zl h.2
theorem aaT (h:eS b kb mb sb pb qb bb tb rk rm rs rp rq rb K bk F L w) (hw:aE K) (Sy:(L 0).length+0<=1000000) (Sx:(L 2).length+0<=1000000) (kd z:Int) (hz:aj z):Zk 35 #[Zp kb,Zp rk,.agg #[Zi kd,Zi z],Zp bk] w λe w'=>Zr e (.bool true)/\bt b kb mb sb pb qb bb tb rk rm rs rp rq rb K bk F L 2 w w':=by
 have H0:=aa (bt.start h);have pB:=aa Sy;have lD:=aa Sx
 have cX:Hid ((oP K.b z).length<=300000):=by
  show _<=_;have h1:=ac4 K.b z;rw[hw.bw] at h1;exact Nat.le_trans h1 (Nat.zero_le _)
 have ar:Hid (∀n wv,bt b kb mb sb pb qb bb tb rk rm rs rp rq rb K bk F L n w wv->wv.cell? ⟨rk,0,none⟩=some (Zp rm)/\wv.cell? ⟨rk,1,none⟩=some (Zp rs)/\wv.cell? ⟨rk,2,none⟩=some (Zp rp)/\wv.cell? ⟨rk,4,none⟩=some (Zp rb)):=λn wv h=>by
  obtain⟨vT,hr⟩:=h.r;exact⟨hr.c0,hr.c1,hr.c2,hr.c4⟩
 clear h hw Sy Sx;go_enter func35,ntmps35;go_upto_region 1 with fail
 obtain⟨ob,az⟩:=Ze (w.heap.size);generalize ag:w.alloc _=w1;have H1:Hid (tT b kb mb sb pb qb bb tb rk rm rs rp rq rb K bk F L ob kd z w w1):=⟨by rw[<-ag];exact H0.j.quiet ((ae.refl _ _).alloc _),by rw[<-ag,az];exact heap_alloc_last _ _⟩
 rw[<-az];clear ag az H0;have c0:=H1.j.c0;have c1:=H1.j.c1;by_cases e1:kd=1
 ·subst e1;go_wp2_with fail;refine(H1.j.1.mark z hz).m ?_;rintro e w2 ⟨rfl,aO⟩;have H2:=aa (H1.j.quiet aO);clear aO H1;go_upto_region 4 with fail
  have HD:=aa (H2.j.drew);have eC:=aa (HD.j.1.YE z);have af:Hid (Zc w2.drew rk 2 (Zp rp)/\Zc w2.drew ob 1 (Zi z)):=⟨(ar.j _ _ HD.j.1).2.2.1,HD.j.c1⟩
  have ak:=af;go_region_held3 (λwv=>Zc wv rk 2 (Zp rp)/\Zc wv ob 1 (Zi z)) (with_reducible (first|exact af.j|exact ak.j)) (first|(go_at_call 83;refine eC.j.m ?_;rintro e w3 ⟨rfl,aO⟩;have H3:=aa (HD.j.quiet aO);have ak:Hid (Zc w3 rk 2 (Zp rp)/\Zc w3 ob 1 (Zi z)):=⟨(ar.j _ _ H3.j.1).2.2.1,H3.j.c1⟩;clear aO));clear af ak eC HD;clear H2;go_wp2_with fail
  all_goals
   go_ret;exact⟨rfl,H3.j.1.up (m:=2)⟩
 by_cases e4:kd=4
 ·subst e4;go_wp2_with fail;refine(H1.j.1.maps z).m ?_;rintro e w2 ⟨v,rfl,hv,aO⟩;have H2:=aa (H1.j.quiet aO);have HV:=aa (⟨hv,aO⟩:_/\_);clear aO hv;go_upto_region 8 with fail
  have HD:=aa (H2.j.drew);have eC:=aa (HD.j.1.YF z);have af:Hid (Zc w2.drew rk 0 (Zp rm)/\Zc w2.drew ob 1 (Zi z)):=⟨(ar.j _ _ HD.j.1).1,HD.j.c1⟩
  have ak:=af;go_region_held3 (λwv=>Zc wv rk 0 (Zp rm)/\Zc wv ob 1 (Zi z)) (with_reducible (first|exact af.j|exact ak.j)) (first|(go_at_call 85;refine eC.j.m ?_;rintro e w3 ⟨v3,rfl,bB,aO⟩;have H3:=aa (HD.j.quiet aO);have zp:=aa (⟨bB,aO⟩:_/\_);clear bB;have ak:Hid (Zc w3 rk 0 (Zp rm)/\Zc w3 ob 1 (Zi z)):=⟨(ar.j _ _ H3.j.1).1,H3.j.c1⟩;clear aO));clear af ak eC HD;have bD:Hid (Zq w2 w3):=zp.j.2.CL;have HS:=aa (XT (HV.j.1.quiet bD.j) zp.j.1 (PS K z));clear H2;go_wp2_with fail;refine HS.j.m ?_;rintro e w4 ⟨rfl,bL⟩;have HB:=aa (H1.j.1.mps lD.j HV.j.2 (bD.j.trans bL) HV.j.1 (PS K z));clear HS bL;go_wp2_with fail;refine HB.j.m ?_;rintro e w5 ⟨rfl,H5⟩;clear HB;go_wp2_with fail
  all_goals
   go_ret;exact⟨rfl,H5.j⟩
 by_cases e5:kd=5
 ·subst e5;go_wp2_with fail;refine(H1.j.1.size z hz).m ?_;rintro e w2 ⟨rfl,aO⟩;have H2:=aa (H1.j.quiet aO);clear aO H1;go_upto_region 14 with fail
  have HD:=aa (H2.j.drew);have eC:=aa (HD.j.1.Yj z);have af:Hid (Zc w2.drew rk 1 (Zp rs)/\Zc w2.drew ob 1 (Zi z)):=⟨(ar.j _ _ HD.j.1).2.1,HD.j.c1⟩
  have ak:=af;go_region_held3 (λwv=>Zc wv rk 1 (Zp rs)/\Zc wv ob 1 (Zi z)) (with_reducible (first|exact af.j|exact ak.j)) (first|(go_at_call 89;refine eC.j.m ?_;rintro e w3 ⟨rfl,aO⟩;have H3:=aa (HD.j.quiet aO);have ak:Hid (Zc w3 rk 1 (Zp rs)/\Zc w3 ob 1 (Zi z)):=⟨(ar.j _ _ H3.j.1).2.1,H3.j.c1⟩;clear aO));clear af ak eC HD;clear H2;go_wp2_with fail
  all_goals
   go_ret;exact⟨rfl,H3.j.1.up (m:=2)⟩
 by_cases e7:kd=7
 ·subst e7;go_wp2_with fail;refine(H1.j.1.line z hz).m ?_;rintro e w2 ⟨v,rfl,hv,aO⟩;have H2:=aa (H1.j.quiet aO);have HV:=aa (⟨hv,aO⟩:_/\_);clear aO hv;go_upto_region 19 with fail
  have HD:=aa (H2.j.drew);have eC:=aa (HD.j.1.OM z);have af:Hid (Zc w2.drew rk 4 (Zp rb)/\Zc w2.drew ob 1 (Zi z)):=⟨(ar.j _ _ HD.j.1).2.2.2,HD.j.c1⟩
  have ak:=af;go_region_held3 (λwv=>Zc wv rk 4 (Zp rb)/\Zc wv ob 1 (Zi z)) (with_reducible (first|exact af.j|exact ak.j)) (first|(go_at_call 91;refine eC.j.m ?_;rintro e w3 ⟨v3,rfl,bB,aO⟩;have H3:=aa (HD.j.quiet aO);have zp:=aa (⟨bB,aO⟩:_/\_);clear bB;have ak:Hid (Zc w3 rk 4 (Zp rb)/\Zc w3 ob 1 (Zi z)):=⟨(ar.j _ _ H3.j.1).2.2.2,H3.j.c1⟩;clear aO));clear af ak eC HD;have c1:=H3.j.c1;go_wp2_with fail;refine(H3.j.1.word z hz).m ?_;rintro e w4 ⟨rfl,aO⟩;have H4:=aa (H3.j.quiet aO);have rW:=aa aO;clear aO c1;go_upto_region 21 with fail
  have HD:=aa (H4.j.drew);have eC:=aa (HD.j.1.OE z);have af:Hid (Zc w4.drew rk 4 (Zp rb)/\Zc w4.drew ob 1 (Zi z)):=⟨(ar.j _ _ HD.j.1).2.2.2,HD.j.c1⟩
  have ak:=af;go_region_held3 (λwv=>Zc wv rk 4 (Zp rb)/\Zc wv ob 1 (Zi z)) (with_reducible (first|exact af.j|exact ak.j)) (first|(go_at_call 93;refine eC.j.m ?_;rintro e w5 ⟨rfl,aO⟩;have H5:=aa (HD.j.quiet aO);have tX:=aa aO;have ak:Hid (Zc w5 rk 4 (Zp rb)/\Zc w5 ob 1 (Zi z)):=⟨(ar.j _ _ H5.j.1).2.2.2,H5.j.c1⟩;clear aO));clear af ak eC HD;have bD:Hid (Zq w2 w3):=zp.j.2.CL;have p8:Hid (Zq w3 w5):=rW.j.trans tX.j.CL;have HS:=aa (Jh (uI (HV.j.1.kept (bD.j.trans p8.j) (λ_ _ h=>h)) (by have:=cX.j;omega)) (uI (zp.j.1.kept p8.j (λ_ _ h=>h)) (by have:=cX.j;omega)));clear H2 H3 H4;go_wp2_with fail;refine HS.j.m ?_;rintro e w6 ⟨rfl,jG⟩;have HB:=aa (H1.j.1.ints pB.j HV.j.2 ((bD.j.trans p8.j).trans jG) HV.j.1 (by have:=cX.j;omega));clear HS jG;go_wp2_with fail;refine HB.j.m ?_;rintro e w7 ⟨rfl,H7⟩;clear HB;go_wp2_with fail
  all_goals
   go_ret;exact⟨rfl,H7.j⟩
 by_cases e8:kd=8
 ·subst e8;go_wp2_with fail;refine(H1.j.1.line z hz).m ?_;rintro e w2 ⟨v,rfl,hv,aO⟩;have H2:=aa (H1.j.quiet aO);have HV:=aa (⟨hv,aO⟩:_/\_);clear aO hv;go_upto_region 19 with fail
  have HD:=aa (H2.j.drew);have eC:=aa (HD.j.1.OM z);have af:Hid (Zc w2.drew rk 4 (Zp rb)/\Zc w2.drew ob 1 (Zi z)):=⟨(ar.j _ _ HD.j.1).2.2.2,HD.j.c1⟩
  have ak:=af;go_region_held3 (λwv=>Zc wv rk 4 (Zp rb)/\Zc wv ob 1 (Zi z)) (with_reducible (first|exact af.j|exact ak.j)) (first|(go_at_call 91;refine eC.j.m ?_;rintro e w3 ⟨v3,rfl,bB,aO⟩;have H3:=aa (HD.j.quiet aO);have zp:=aa (⟨bB,aO⟩:_/\_);clear bB;have ak:Hid (Zc w3 rk 4 (Zp rb)/\Zc w3 ob 1 (Zi z)):=⟨(ar.j _ _ H3.j.1).2.2.2,H3.j.c1⟩;clear aO));clear af ak eC HD;have c1:=H3.j.c1;go_wp2_with fail;refine(H3.j.1.word z hz).m ?_;rintro e w4 ⟨rfl,aO⟩;have H4:=aa (H3.j.quiet aO);have rW:=aa aO;clear aO c1;go_upto_region 21 with fail
  have HD:=aa (H4.j.drew);have eC:=aa (HD.j.1.OE z);have af:Hid (Zc w4.drew rk 4 (Zp rb)/\Zc w4.drew ob 1 (Zi z)):=⟨(ar.j _ _ HD.j.1).2.2.2,HD.j.c1⟩
  have ak:=af;go_region_held3 (λwv=>Zc wv rk 4 (Zp rb)/\Zc wv ob 1 (Zi z)) (with_reducible (first|exact af.j|exact ak.j)) (first|(go_at_call 93;refine eC.j.m ?_;rintro e w5 ⟨rfl,aO⟩;have H5:=aa (HD.j.quiet aO);have tX:=aa aO;have ak:Hid (Zc w5 rk 4 (Zp rb)/\Zc w5 ob 1 (Zi z)):=⟨(ar.j _ _ H5.j.1).2.2.2,H5.j.c1⟩;clear aO));clear af ak eC HD;have bD:Hid (Zq w2 w3):=zp.j.2.CL;have p8:Hid (Zq w3 w5):=rW.j.trans tX.j.CL;have HS:=aa (Jh (uI (HV.j.1.kept (bD.j.trans p8.j) (λ_ _ h=>h)) (by have:=cX.j;omega)) (uI (zp.j.1.kept p8.j (λ_ _ h=>h)) (by have:=cX.j;omega)));clear H2 H3 H4;go_wp2_with fail;refine HS.j.m ?_;rintro e w6 ⟨rfl,jG⟩;have HB:=aa (H1.j.1.ints pB.j HV.j.2 ((bD.j.trans p8.j).trans jG) HV.j.1 (by have:=cX.j;omega));clear HS jG;go_wp2_with fail;refine HB.j.m ?_;rintro e w7 ⟨rfl,H7⟩;clear HB;go_wp2_with fail
  all_goals
   go_ret;exact⟨rfl,H7.j⟩
 go_wp2_with fail
 all_goals
  go_ret;exact⟨rfl,H1.j.1.up (m:=2)⟩
end
section
variable {b kb mb sb pb qb bb tb rk rm rs rp rq rb bk:Nat} {F:Nat->Prop} {K:Kn} {L:Nat->List Sh} {w w1 w2 w3 wr wv:World} {n:Nat} {vT:Value} {U:Nat->Prop}
theorem bt.threads (h:bt b kb mb sb pb qb bb tb rk rm rs rp rq rb K bk F L n w wr) (hw:aE K):Zk 20 #[Zp kb] wr λe w'=>∃v,Zr e v/\ai eu w' wr.heap.size 203 v (K.T.map (iv K))/\Zq wr w':=ade h.x hw
theorem bt.Yi (h:bt b kb mb sb pb qb bb tb rk rm rs rp rq rb K bk F L n w wr) (hw:aE K):Zk 22 #[Zp rk] wr λe w'=>∃v,Zr e v/\ai eu w' wr.heap.size 203 v (K.T.map (iv K))/\Zq wr w':=by
 obtain⟨vT,hr⟩:=h.r;obtain⟨pt,ct,BM,_⟩:=hr.t.form;exact ZA hr hw
theorem bt.entries (h:bt b kb mb sb pb qb bb tb rk rm rs rp rq rb K bk F L n w wr):Zk 23 #[Zp kb] wr λe w'=>∃v,Zr e v/\ai dP w' wr.heap.size 208 v K.es/\Zq wr w':=by
 have hx:=h.x;obtain⟨U2,hg⟩:=hx.o7;refine adn hx.c1 (VP hg) ?_;rintro e w' ⟨v,rfl,_⟩;exact⟨_,rfl⟩
theorem bt.YO (h:bt b kb mb sb pb qb bb tb rk rm rs rp rq rb K bk F L n w wr):∃ve,wr.cell? ⟨rk,1,none⟩=some (Zp rs)/\wr.cell? ⟨rs,1,none⟩=some ve/\zk dP wr ve K.es:=by
 obtain⟨vT,hr⟩:=h.r;obtain⟨U2,vb,ve,hg⟩:=hr.o7;exact⟨ve,hr.c1,Zl hg.r,uI hg.e (by have:=hg.ne;omega)⟩
theorem bt.objects (h:bt b kb mb sb pb qb bb tb rk rm rs rp rq rb K bk F L n w wr):Zk 25 #[Zp kb] wr λe w'=>∃v,Zr e v/\∃ls,ai aJ w' wr.heap.size 85 v ls/\ls.Perm (fE K.os K.rs)/\ls.Pairwise kY/\Zq wr w':=by
 have hx:=h.x;obtain⟨U2,hg⟩:=hx.vL;refine adi hx.c2 (Vu hg) ?_;rintro e w' ⟨v,rfl,_⟩;exact⟨_,rfl⟩
theorem bt.OK (h:bt b kb mb sb pb qb bb tb rk rm rs rp rq rb K bk F L n w wr) (uY:K.os.length<=900000) (mB:K.rs.length<=900000):Zk 27 #[Zp rp] wr λe w'=>∃v,Zr e v/\∃ls,ai aJ w' wr.heap.size 85 v ls/\ls.Perm (fE K.os K.rs)/\ls.Pairwise kY/\Zq wr w':=by
 obtain⟨vT,hr⟩:=h.r;obtain⟨U2,vo,vr,hg⟩:=hr.vL;exact TN hg uY mB
theorem afQ {l1 l2:Lp} (h1:l1.Perm (fE K.os K.rs)) (h2:l2.Perm (fE K.os K.rs)) (s1:l1.Pairwise kY) (s2:l2.Pairwise kY):l1=l2:=(h1.trans h2.symm).eq_of_pairwise (λa b _ _ ch Sm=>acg ch Sm) s1 s2
theorem bt.Ww (h:bt b kb mb sb pb qb bb tb rk rm rs rp rq rb K bk F L n w wr):Zk 32 #[Zp kb] wr λe w'=>Zr e (.tuple #[Zi (K.t:Int),Zi K.lf])/\Zq wr w':=by
 have hx:=h.x;obtain⟨U2,G2,_,_,zW,D2,vt,vq,Q,_,hy⟩:=hx.sched;refine adb hx.c3 (Vk hy) ?_;rintro e w' ⟨rfl,_⟩;exact⟨_,_,rfl⟩
theorem bt.Yh (h:bt b kb mb sb pb qb bb tb rk rm rs rp rq rb K bk F L n w wr):Zk 33 #[Zp rq] wr λe w'=>Zr e (.tuple #[Zi (K.t:Int),Zi K.lf])/\Zq wr w':=by
 obtain⟨vT,hr⟩:=h.r;obtain⟨U2,vt,vl,hg⟩:=hr.sched;exact W8 hg
end
section
variable {b kb mb sb pb qb bb tb rk rm rs rp rq rb bk:Nat} {F:Nat->Prop} {K:Kn} {L:Nat->List Sh} {w w1 w2 w3 wr wv:World} {n:Nat} {vT:Value} {U:Nat->Prop}
theorem bt.aa6 (h:bt b kb mb sb pb qb bb tb rk rm rs rp rq rb K bk F L n w wr) {N:Nat} (hN:N=4096*K.n):Zk 31 #[Zp kb,Zi 0,Zi (N:Int)] wr λe w'=>Zr e (.tuple #[.string ⟨(fD K.f 0 N).toArray⟩,Zi 0])/\Zq wr w':=by
 have hx:=h.x;obtain⟨U2,hg⟩:=hx.mem;refine adh ((0:Nat):Int) (N:Int) hx.c0 (Y6 hg 0 N Zo) ?_;rintro e w' ⟨rfl,_⟩;exact⟨_,_,rfl⟩
theorem bt.OY (h:bt b kb mb sb pb qb bb tb rk rm rs rp rq rb K bk F L n w wr) {N:Nat} (hN:N=4096*K.n):∃bx,wr.cell? ⟨rk,0,none⟩=some (Zp rm)/\wr.cell? ⟨rm,0,none⟩=some (Zs bx N N)/\(convert 134 9 (Zs bx N N)).run prog wr=.ok (.string ⟨(fD K.f 0 N).toArray⟩) wr:=by
 obtain⟨vT,hr⟩:=h.r;obtain⟨bx,hg⟩:=hr.mem;subst hN;refine⟨bx,hr.c0,hg.cr,?_⟩;have hl:=rz K.f 0 (4096*K.n)
 have:=run_convert_bytes_back (P:=prog) wr 134 9 5 ⟨bx,0,none⟩ (4096*K.n) (fD K.f 0 (4096*K.n)) underlying134 underlying5 underlying9 (λj hj=>by
  rw[hl] at hj;rw[pY,hg.cb Zo]
  have h2:(fD K.f 0 (4096*K.n))[j]=K.f (0+j):=by
   have:=Ek K.f 0 (4096*K.n) j hj;rw[List.getElem?_eq_getElem (by rw[hl];exact hj)] at this;exact Option.some.inj this
  rw[h2]
  rfl)
 rw[hl] at this;exact this
end
section
variable {b kb mb sb pb qb bb tb rk rm rs rp rq rb bk:Nat} {F:Nat->Prop} {K:Kn} {L:Nat->List Sh} {w w0 w8 wr wv:World} {n B1 B3 B5:Nat} {v1 v3 v5:Value} {l1:List Tl} {l3:List En} {l5:List Sl}
theorem IZ {L L2:Nat->List Sh} {j n:Nat} {s1 s2:Sh} (h:∀i,(L2 i).length<=(L i).length+n):∀i,(fh L2 j (L2 j++[s1,s2]) i).length<=(L i).length+(n+2):=λi=>by
 have:=h i;unfold fh
 split
 ·rename_i hj;subst hj;simp;omega
 ·omega
def MO (w0:World) (b kb mb sb pb qb bb tb rk rm rs rp rq rb:Nat) (K:Kn) (bk:Nat) (L:Nat->List Sh) (v3:Value) (l3:List En) (v5:Value) (l5:List Sl) (wv:World):Prop:=∃F L2,(∀j,(L2 j).length<=(L j).length+2)/\eS b kb mb sb pb qb bb tb rk rm rs rp rq rb K bk F L2 wv/\ai dP wv 0 208 v3 l3/\ai aJ wv 0 85 v5 l5/\(∀k,v3.ownBlock=some k->F k/\v5.ownBlock≠some k)/\(∀k,v5.ownBlock=some k->F k)/\ae (λk=>b<=k) w0 wv
def MN (w0:World) (b kb mb sb pb qb bb tb rk rm rs rp rq rb:Nat) (K:Kn) (bk:Nat) (L:Nat->List Sh) (v5:Value) (l5:List Sl) (wv:World):Prop:=∃F L2,(∀j,(L2 j).length<=(L j).length+4)/\eS b kb mb sb pb qb bb tb rk rm rs rp rq rb K bk F L2 wv/\ai aJ wv 0 85 v5 l5/\(∀k,v5.ownBlock=some k->F k)/\ae (λk=>b<=k) w0 wv
def rQ (w0:World) (b kb mb sb pb qb bb tb rk rm rs rp rq rb:Nat) (K:Kn) (bk:Nat) (L:Nat->List Sh) (n:Nat) (wv:World):Prop:=∃L2,(∀j,(L2 j).length<=(L j).length+n)/\eS b kb mb sb pb qb bb tb rk rm rs rp rq rb K bk (λ_=>False) L2 wv/\ae (λk=>b<=k) w0 wv
theorem K3.one (h:eS b kb mb sb pb qb bb tb rk rm rs rp rq rb K bk (λ_=>False) L w) (hL:∀j,(L j).length<=500000) (ho:Zq w w8) (h1:ai eu w8 B1 203 v1 l1) (h3:ai dP w8 B3 208 v3 l3) (h5:ai aJ w8 B5 85 v5 l5) (tN:w.heap.size<=B1) (qK:w.heap.size<=B3) (AS:w.heap.size<=B5) (d13:∀k,v1.ownBlock=some k->k<B3) (d15:∀k,v1.ownBlock=some k->k<B5) (d35:∀k,v3.ownBlock=some k->k<B5) (hn:l1.length<=2000000):
  Zk 28 #[Zp bk,v1] w8 λe w'=>Zr e (.tuple #[])/\Hid (MO w b kb mb sb pb qb bb tb rk rm rs rp rq rb K bk L v3 l3 v5 l5 w'):=by
 have h8:=h.bV ho h.le;have f1:∀k,v1.ownBlock=some k->False\/(w.heap.size<=k/\k<w8.heap.size):=λk hk=>Or.inr ⟨Nat.le_trans tN (cH h1 hk).1,(cH h1 hk).2⟩
 refine(h8.aao (by have:=hL 5;omega) h1 hn f1).m ?_;rintro e w' ⟨rfl,s1,s2,h9,aO⟩;have f3:∀k,v3.ownBlock=some k->(False\/(w.heap.size<=k/\k<w8.heap.size))/\v1.ownBlock≠some k:=λk hk=>⟨Or.inr ⟨Nat.le_trans qK (cH h3 hk).1,(cH h3 hk).2⟩,λe=>by have:=d13 k e;have:=(cH h3 hk).1;omega⟩
 have f5:∀k,v5.ownBlock=some k->(False\/(w.heap.size<=k/\k<w8.heap.size))/\v1.ownBlock≠some k:=λk hk=>⟨Or.inr ⟨Nat.le_trans AS (cH h5 hk).1,(cH h5 hk).2⟩,λe=>by have:=d15 k e;have:=(cH h5 hk).1;omega⟩
 refine⟨rfl,_,_,IZ (n:=0) (λ_=>Nat.le_refl _),h9,s9 (h3.kept aO (λk hk hs=>?_)) (Nat.zero_le _),s9 (h5.kept aO (λk hk hs=>?_)) (Nat.zero_le _),λk hk=>⟨f3 k hk,λe=>?_⟩,f5,?_⟩
 ·rcases hs with hs|hs
  ·exact(f3 k hk).2 hs
  ·exact hs.2 (f3 k hk).1
 ·rcases hs with hs|hs
  ·exact(f5 k hk).2 hs
  ·exact hs.2 (f5 k hk).1
 ·have:=d35 k hk;have:=(cH h5 e).1;omega
 ·refine(ho.f).trans (aO.mono (λk _ hk=>?_));rcases hk with hk|hk
  ·exact Nat.le_trans h.le (Nat.le_trans tN (cH h1 hk).1)
  ·exact hk.1
theorem MO.two (h:MO w0 b kb mb sb pb qb bb tb rk rm rs rp rq rb K bk L v3 l3 v5 l5 wv) (hL:∀j,(L j).length<=500000) (hn:l3.length<=2000000):
  Zk 29 #[Zp bk,v3] wv λe w'=>Zr e (.tuple #[])/\Hid (MN w0 b kb mb sb pb qb bb tb rk rm rs rp rq rb K bk L v5 l5 w'):=by
 obtain⟨F,L2,hl,h1,h3,h5,f3,f5,ay⟩:=h;refine(h1.aaw (by have:=hL 4;have:=hl 4;omega) h3 hn (λk hk=>(f3 k hk).1)).m ?_;rintro e w' ⟨rfl,s1,s2,h9,aO⟩;refine⟨rfl,_,_,IZ hl,h9,h5.kept aO (λk hk hs=>?_),λk hk=>⟨f5 k hk,λe=>(f3 k e).2 hk⟩,ay.trans (aO.mono (λk _ hk=>?_))⟩
 ·rcases hs with hs|hs
  ·exact(f3 k hs).2 hk
  ·exact hs.2 (f5 k hk)
 ·rcases hk with hk|hk
  ·exact(h1.f k (f3 k hk).1).1.1
  ·exact hk.1
theorem MN.three (h:MN w0 b kb mb sb pb qb bb tb rk rm rs rp rq rb K bk L v5 l5 wv) (hL:∀j,(L j).length<=500000) (hn:l5.length<=2000000):
  Zk 30 #[Zp bk,v5] wv λe w'=>Zr e (.tuple #[])/\Hid (rQ w0 b kb mb sb pb qb bb tb rk rm rs rp rq rb K bk L 6 w'):=by
 obtain⟨F,L2,hl,h1,h5,f5,ay⟩:=h;refine(h1.aaq (by have:=hL 3;have:=hl 3;omega) h5 hn f5).m ?_;rintro e w' ⟨rfl,s1,s2,h9,aO⟩;refine⟨rfl,_,IZ hl,h9.thin (λ_ h=>h.elim),ay.trans (aO.mono (λk _ hk=>?_))⟩;rcases hk with hk|hk
 ·exact(h1.f k (f5 k hk)).1.1
 ·exact hk.1
end
section
variable {b kb mb sb pb qb bb tb rk rm rs rp rq rb bk:Nat} {F:Nat->Prop} {K:Kn} {L:Nat->List Sh} {w w0 w8 wr wv w2:World} {n:Nat} {v:Value} {ls:List Sl}
theorem rQ.quiet (h:rQ w0 b kb mb sb pb qb bb tb rk rm rs rp rq rb K bk L n wv) (ho:Zq wv w2):rQ w0 b kb mb sb pb qb bb tb rk rm rs rp rq rb K bk L n w2:=by
 obtain⟨L2,h1,h2,h3⟩:=h;exact⟨L2,h1,h2.quiet ho h2.le,h3.trans (ho.f)⟩
theorem rQ.lb (h:rQ w0 b kb mb sb pb qb bb tb rk rm rs rp rq rb K bk L n wv):∃L2,bt b kb mb sb pb qb bb tb rk rm rs rp rq rb K bk (λ_=>False) L2 0 wv wv:=by
 obtain⟨L2,h1,h2,_⟩:=h;exact⟨L2,bt.start h2⟩
theorem rQ.lines (h:rQ w0 b kb mb sb pb qb bb tb rk rm rs rp rq rb K bk L n wv) (hw:aE K) (hL:∀j,(L j).length+n+16<=1000000) {i:Nat} (hi:i<8):Zk 34 #[Zp kb,Zp rk,Zi (i:Int),Zp bk] wv λe w'=>Zr e (.bool true)/\Hid (rQ w0 b kb mb sb pb qb bb tb rk rm rs rp rq rb K bk L (n+16) w'):=by
 obtain⟨L2,h1,h2,ay⟩:=h;refine(ac3 h2 hw (by have:=h1 0;have:=hL 0;omega) hi).m ?_;rintro e w' ⟨rfl,L3,h3,h4,h5⟩;exact⟨rfl,L3,λj=>by have:=h1 j;have:=h3 j;omega,h4,ay.trans (h5.mono (λ_ _ h=>h.1))⟩
def zl (w0:World) (b kb mb sb pb qb bb tb rk rm rs rp rq rb:Nat) (K:Kn) (bk:Nat) (L:Nat->List Sh) (v:Value) (ls:List Sl) (n:Nat) (wv:World):Prop:=∃L2,(∀j,(L2 j).length<=(L j).length+n)/\eS b kb mb sb pb qb bb tb rk rm rs rp rq rb K bk (λk=>v.ownBlock=some k) L2 wv/\ai aJ wv 0 85 v ls/\ae (λk=>b<=k) w0 wv
theorem zl.start (h:rQ w0 b kb mb sb pb qb bb tb rk rm rs rp rq rb K bk L n wv) (ho:Zq wv w2) (hv:ai aJ w2 wv.heap.size 85 v ls):zl w0 b kb mb sb pb qb bb tb rk rm rs rp rq rb K bk L v ls n w2:=by
 obtain⟨L2,h1,h2,h3⟩:=h;exact⟨L2,h1,(h2.bV ho h2.le).thin (λk hk=>Or.inr (cH hv hk)),s9 hv (Nat.zero_le _),h3.trans (ho.f)⟩
theorem zl.obj (h:zl w0 b kb mb sb pb qb bb tb rk rm rs rp rq rb K bk L v ls n wv) (hw:aE K) (hL:∀j,(L j).length+n+2<=1000000) (kd z:Int) (hz:aj z):Zk 35 #[Zp kb,Zp rk,.agg #[Zi kd,Zi z],Zp bk] wv λe w'=>Zr e (.bool true)/\Hid (zl w0 b kb mb sb pb qb bb tb rk rm rs rp rq rb K bk L v ls (n+2) w'):=by
 obtain⟨L2,h1,h2,h5,ay⟩:=h;refine(aaT h2 hw (by have:=h1 0;have:=hL 0;omega) (by have:=h1 2;have:=hL 2;omega) kd z hz).m ?_;rintro e w' ⟨rfl,L3,h3,h4,ho⟩;exact⟨rfl,L3,λj=>by have:=h1 j;have:=h3 j;omega,h4,h5.kept ho (λk hk hs=>hs.2 hk),ay.trans (ho.mono (λ_ _ h=>h.1))⟩
theorem Qi (h:eS b kb mb sb pb qb bb tb rk rm rs rp rq rb K bk (λ_=>False) L w) (hw:aE K) (hI:∀x∈fE K.os K.rs,aj x.2) (hA:(fE K.os K.rs).length<=2600) (hE:K.es.length<=1000000) (hL:∀j,(L j).length<=400000):Zk 7 #[Zp kb,Zp rk,Zp bk] w λe w'=>Zr e (.bool true)/\rQ w b kb mb sb pb qb bb tb rk rm rs rp rq rb K bk L 10000 w':=by
 have HH:=aa h;have HW:=aa hw;have HI:=aa hI;have HA:=aa hA;have HE:=aa hE;have HL:=aa hL;have gv:Hid ((K.T.map (iv K)).length<=1000):=by show _<=_;rw[List.length_map];have:=hw.nt;omega
 have H0:=aa (bt.start h);clear h hw hI hA hE hL;go_enter func7,ntmps7;go_wp2_with fail;refine(H0.j.threads HW.j).m ?_;rintro e w1 ⟨v1,rfl,bc,aB⟩;have H1:=aa (H0.j.quiet aB);have V1:=aa (⟨bc,aB⟩:_/\_);clear bc aB;go_wp2_with fail;refine(H1.j.Yi HW.j).m ?_;rintro e w2 ⟨v2,rfl,aP,aC⟩;have HS:=aa (XQ (V1.j.1.kept aC (λ_ _ h=>h)) aP (by have:=gv.j;omega));have H2:=aa (H1.j.quiet aC);have O2:=aa aC;clear aP aC;go_wp2_with fail;refine HS.j.m ?_;rintro e w3 ⟨rfl,aN⟩;have H3:=aa (H2.j.quiet aN);have W1:=aa (V1.j.1.kept (O2.j.trans aN) (λ_ _ h=>h));have O3:=aa (V1.j.2.trans (O2.j.trans aN));have UY:Hid (∀k,v1.ownBlock=some k->k<w3.heap.size):=λk hk=>(cH W1.j hk).2
 clear aN HS H1 H2 O2 V1;go_wp2_with fail;refine H3.j.entries.m ?_;rintro e w4 ⟨v3,rfl,bB,bL⟩;have H4:=aa (H3.j.quiet bL);obtain⟨ve,c1,c2,RN⟩:=H4.j.YO;have HS:=aa (XU (uI bB (by have:=HE.j;omega)) RN);have V3:=aa (⟨bB,bL⟩:_/\_);clear bB bL RN;go_wp2_with fail;refine HS.j.m ?_;rintro e w5 ⟨rfl,eG⟩;have H5:=aa (H4.j.quiet eG);have O5:=aa (O3.j.trans (V3.j.2.trans eG));have W3:=aa (V3.j.1.kept eG (λ_ _ h=>h));have MG:=aa (W1.j.kept (V3.j.2.trans eG) (λ_ _ h=>h));have UW:Hid (∀k,v3.ownBlock=some k->k<w5.heap.size):=λk hk=>(cH W3.j hk).2
 have UX:Hid (∀k,v1.ownBlock=some k->k<w5.heap.size):=λk hk=>(cH MG.j hk).2
 have B3:Hid (w.heap.size<=w3.heap.size):=O3.j.size;have B5:Hid (w.heap.size<=w5.heap.size):=O5.j.size;clear eG HS H4 c1 c2 V3 W1 H3;go_wp2_with fail;refine H5.j.objects.m ?_;rintro e w6 ⟨v5,rfl,ls,Dq,Ar,Rh,jG⟩;have H6:=aa (H5.j.quiet jG);have V5:=aa (⟨Dq,jG⟩:_/\_);have S5:=aa (⟨Ar,Rh⟩:_/\_);have Nf:Hid (ls.length<=2600):=by show _<=_;rw[Ar.length_eq];exact HA.j
 have c2:w6.cell? ⟨rk,2,none⟩=some (Zp rp):=by
  obtain⟨vT,hr⟩:=H6.j.r;exact hr.c2
 clear Dq jG Ar Rh;go_wp2_with fail;refine(H6.j.OK (by have:=HW.j.p.lo;omega) (by have:=HW.j.p.lr;omega)).m ?_;rintro e w7 ⟨v6,rfl,ru,BN,Aq,GL,su⟩;obtain rfl:ls=ru:=afQ S5.j.1 Aq S5.j.2 GL;have HS:=aa (XS (uI (V5.j.1.kept su (λ_ _ h=>h)) (by have:=Nf.j;omega)) (uI BN (by have:=Nf.j;omega)));have O7:=aa su;clear BN Aq GL su c2;go_wp2_with fail;refine HS.j.m ?_;rintro e w8 ⟨rfl,DI⟩;have MJ:=aa (O7.j.trans DI);have Im:=aa (V5.j.2.trans MJ.j);have HB:=aa (K3.one HH.j (λj=>by have:=HL.j j;omega) (O5.j.trans Im.j) (MG.j.kept Im.j (λ_ _ h=>h)) (W3.j.kept Im.j (λ_ _ h=>h)) (V5.j.1.kept MJ.j (λ_ _ h=>h)) (Nat.le_refl _) B3.j B5.j UY.j UX.j UW.j (by have:=gv.j;omega));clear DI HS H5 H6 O7 MJ Im V5 MG W3 UY UX UW B3 B5 O3 O5 H0;go_wp2_with fail;refine HB.j.m ?_;rintro e w9 ⟨rfl,H9⟩;clear HB;go_wp2_with fail;refine(H9.j.two (λj=>by have:=HL.j j;omega) (by have:=HE.j;omega)).m ?_;rintro e ji ⟨rfl,eX⟩;clear H9;go_wp2_with fail;refine(eX.j.three (λj=>by have:=HL.j j;omega) (by have:=Nf.j;omega)).m ?_;rintro e FJ ⟨rfl,xz⟩;clear eX HH;obtain⟨N,hN⟩:=Ze (4096*K.n);obtain⟨L2,lD⟩:=xz.j.lb;obtain⟨bx,c0,c1,_⟩:=lD.OY hN;have E0:=aa (lD.aa6 hN);have dg:=aa hN;clear hN lD;go_wp2_with fail;refine E0.j.m ?_;rintro e w12 ⟨rfl,Rz⟩;have oH:=aa (xz.j.quiet Rz);clear Rz E0 xz c0 c1;obtain⟨L3,Cx⟩:=oH.j.lb;obtain⟨bx2,d0,d1,dc⟩:=Cx.OY dg.j;have xl:=aa Cx.Ww;clear Cx dg;generalize (⟨(fD K.f 0 N).toArray⟩:ByteArray)=tx at*;go_wp2_with fail;refine xl.j.m ?_;rintro e Wj ⟨rfl,Ry⟩;have Nw:=aa (oH.j.quiet Ry);clear Ry xl oH d0 d1 dc;obtain⟨L4,Ng⟩:=Nw.j.lb
 have c3:Wj.cell? ⟨rk,3,none⟩=some (Zp rq):=by
  obtain⟨vT,hr⟩:=Ng.r;exact hr.c3
 have xl:=aa Ng.Yh;clear Ng;go_wp2_with fail;refine xl.j.m ?_;rintro e w14 ⟨rfl,Rx⟩;have UT:=aa (Nw.j.quiet Rx);clear Rx xl Nw c3;go_wp2_with fail
 go_loopw [19] (λd wr=>∃i:Nat,d=Zi (i:Int)/\i<=8/\Hid (rQ w b kb mb sb pb qb bb tb rk rm rs rp rq rb K bk L (6+16*i) wr)) (λd _=>8 - (RowKit.intOf d).toNat)
 case atStart=>exact⟨0,rfl,Zo,UT⟩
 case round=>
  clear UT;obtain⟨i,rfl,hi,HR⟩:=hrel;by_cases ah:i<8
  ·have h1:(i:Int)<8:=Zo;have hwi:=Zf i Zo;have HB:=aa (HR.j.lines HW.j (λj=>by have:=HL.j j;omega) ah);clear HR;go_wp2_with fail;refine HB.j.m ?_;rintro e w15 ⟨rfl,H15⟩;clear HB;go_wp2_with fail;go_roundw
   case rel=>exact⟨i+1,by go_num,Zo,H15⟩
   case measure=>exact Zm
  ·obtain rfl:i=8:=Zo;have h1:¬((8:Nat):Int)<8:=Zo;obtain⟨L5,Fa⟩:=HR.j.lb
   have c2:wr.cell? ⟨rk,2,none⟩=some (Zp rp):=by
    obtain⟨vT,hr⟩:=Fa.r;exact hr.c2
   have gH:=aa (Fa.OK (by have:=HW.j.p.lo;omega) (by have:=HW.j.p.lr;omega));clear Fa ah;go_wp2_with fail;refine gH.j.m ?_;rintro e Wi ⟨v6,rfl,uL,BN,Aq,GL,jG⟩;have zC:Hid (∀x∈uL,aj x.2):=λx hx=>HI.j x (Aq.mem_iff.1 hx)
   have agf:Hid (uL.length<=2600):=by show _<=_;rw[Aq.length_eq];exact HA.j
   have US:Hid (zl w b kb mb sb pb qb bb tb rk rm rs rp rq rb K bk L v6 uL 134 Wi):=zl.start HR.j jG BN;obtain⟨p6,q6,iA,_,_,Lj⟩:=BN.form;obtain⟨M,hM⟩:=Ze (uL.length);rw[<-hM] at iA Lj;subst iA;have HM:=aa hM
   have HG6:Hid (0<M->∃g,p6=some ⟨g,0,none⟩):=λh0=>by
    obtain⟨g,h1,_⟩:=Lj h0;exact⟨g,h1⟩
   have D6:M<=2600:=by rw[hM];exact agf.j
   clear BN Aq GL jG gH HR c2 Lj hM;go_wp2_with fail
   go_loopw [22] (λd wr=>∃j:Nat,d=Zi (j:Int)/\j<=M/\Hid (zl w b kb mb sb pb qb bb tb rk rm rs rp rq rb K bk L (.slice p6 M q6) uL (134+2*j) wr)) (λd _=>M - (RowKit.intOf d).toNat)
   case atStart=>exact⟨0,rfl,Zo,US⟩
   case round=>
    clear US;obtain⟨j,rfl,hj,HR⟩:=hrel;by_cases ah:j<M
    ·have h1:(j:Int)<(M:Int):=Zo;have bf:0<=(j:Int)/\(j:Int)<(M:Int):=Zo;have jT:=Zf j Zo;have bg:j<uL.length:=by have:=HM.j;omega
     obtain⟨g,rfl⟩:=HG6.j Zo;obtain⟨L7,_,_,su,_⟩:=HR.j;obtain⟨e0,e1⟩:=JH su bg;have hz:=zC.j _ (List.getElem_mem bg);have HB:=aa (HR.j.obj HW.j (λj=>by have:=HL.j j;omega) uL[j].1 uL[j].2 hz);generalize uL[j].1=kd at*;generalize uL[j].2=z at*;clear HR su hz;go_wp2_with fail;refine HB.j.m ?_;rintro e w17 ⟨rfl,H17⟩;clear HB e0 e1;go_wp2_with fail;go_roundw
     case rel=>exact⟨j+1,by go_num,Zo,H17⟩
     case measure=>exact Zm
    ·obtain rfl:j=M:=Zo;have h1:¬(j:Int)<(j:Int):=Zo;obtain⟨L7,KZ,h7,_,aO⟩:=HR.j;have EW:=aa (h7.reads (λi _=>by have:=KZ i;have:=HL.j i;omega));have eO:Hid (rQ w b kb mb sb pb qb bb tb rk rm rs rp rq rb K bk L 10000 wr):=⟨L7,λi=>Nat.le_trans (KZ i) Zo,h7.thin (λ_ h=>h.elim),aO⟩
     clear KZ h7 aO ah HR;go_wp2_with fail;refine EW.j.e1 ?_;go_wp2_with fail
     all_goals
      go_ret;exact⟨rfl,eO.j⟩
end
section
variable {kb mb sb pb qb bb tb rk rm rs rp rq rb bk:Nat} {K:Kn} {w w0 w1 w2 w5:World} {S:Sk}
theorem afp (h:(kM S).1=0):1<=S.n/\S.n<=256/\eP S.ts=0:=by
 by_cases h1:S.n<1\/256<S.n\/eP S.ts≠0
 ·rw[Mr h1] at h;cases h
 ·by_cases h2:eP S.ts=0
  ·exact⟨Zo,Zo,h2⟩
  ·exact absurd (Or.inr (Or.inr h2)) h1
theorem CN {α:Type} {st:Kn->α->Kn×Int} {R:α->Prop} (hs:∀K x,aE K->R x->aE (st K x).1) {q:Kn×Int×Nat} {l:List α} (hq:aE q.1) (hl:∀x∈l,R x):aE (aY st q l).1:=by
 unfold aY
 split
 ·exact aE.run hs l _ 0 hq hl
 ·exact hq
theorem afo (hS:A5 S) (h:(kM S).1=0):aE (A2 S):=by
 obtain⟨h1,h2,h3⟩:=afp h;have h0:aE (rA S):=(aE.start ⟨h1,h2⟩ (N2 h3)).1;have a1:aE (bz cj (rA S) S.ob 0).1:=aE.run (R:=λx=>aj x.2.1) (λK x h hx=>h.obj x hx) S.ob _ 0 h0 (λx hx=>(hS.ob x hx).2.1);have a2:=CN (st:=cV) (R:=λ_=>True) (l:=S.cP) (λK x h _=>h.Eu x) a1 (λ_ _=>trivial);have a3:=CN (st:=bY) (R:=λx=>kE x.cap/\aj x.cap.num) (l:=S.cp) (λK x h hx=>h.cap x hx.1 hx.2) a2 (λx hx=>⟨(hS.cp x hx).1,(hS.cp x hx).2.1⟩);have a4:=CN (st:=bK) (R:=λ_=>True) (l:=S.mp) (λK x h _=>h.map x) a3 (λ_ _=>trivial);have a5:=CN (st:=bP) (R:=λx=>xe x) (l:=S.th) (λK x h hx=>h.dh x hx) a4 (λx hx=>(hS.th x hx).1);have a6:=CN (st:=cF) (R:=λ_=>True) (l:=S.iq) (λK x h _=>h.irq x) a5 (λ_ _=>trivial);exact a6.fin
theorem aE.TP (h:aE K):∀x∈fE K.os K.rs,aj x.2:=λx hx=>by
 unfold fE at hx;rcases List.mem_append.1 hx with hx|hx
 ·have h1:=h.p.ok x hx;have h2:=h.p.p;unfold aj;omega
 ·obtain⟨r,hr,rfl⟩:=List.mem_map.1 hx;have h1:=(h.p.rk r hr).1;unfold fK at h1;show aj r.1;unfold aj;omega
theorem aE.TO (h:aE K):(fE K.os K.rs).length<=2600:=by
 unfold fE;rw[List.length_append,List.length_map];have:=h.p.lo;have:=h.p.lr;omega
theorem acm (hx:ax (λk=>k<w0.heap.size/\k≠0) w1 kb mb sb pb qb bb tb K) (SN:Zq w1 w2) (hr:fF (λk=>k<w1.heap.size) w2 rk rm rs rp rq rb K) (LU:Zq w2 w5) (hb:w5.heap[bk]?=some (.cells #[.slice none 0 0,.slice none 0 0,.slice none 0 0,.slice none 0 0,.slice none 0 0,.slice none 0 0] 49 (0,0))) (kJ:w2.heap.size<=bk):
  eS w2.heap.size kb mb sb pb qb bb tb rk rm rs rp rq rb K bk (λ_=>False) (λ_=>[]) w5:=by
 have XX:=SN.size;have s25:=LU.size;obtain⟨vT,hr⟩:=hr;refine⟨aD.bj _ _ _ (λ_=>False) w1 w5 hx (SN.trans LU) (λ_ _ h=>h.elim) (λk hk=>Or.inr ⟨Nat.le_trans XX hk.1,hk.2⟩),⟨vT,aD.bj _ _ _ (λ_=>False) w2 w5 hr LU (λ_ _ h=>h.elim) (λk hk=>Or.inr hk)⟩,⟨_,_,_,gI.nil hb (λj hj=>?_),λk hk=>hk.elim⟩,⟨kJ,au hb⟩,λk hk=>hk.elim⟩;rcases(by omega:j=0\/j=1\/j=2\/j=3\/j=4\/j=5) with rfl|rfl|rfl|rfl|rfl|rfl<;>rfl
def ra:Tc:=⟨1,0,0,true,λ_=>0,64⟩
def Br:Sk:=⟨2,[(0,1)],1073741822,[(6,1,0)],[],[],[],[ra],[]⟩
theorem Xv:A5 Br:=by
 refine⟨by unfold aj;decide,Zd,Zd,λx hx=>?_,(λx hx=>by cases hx),(λx hx=>by cases hx),(λx hx=>by cases hx),λx hx=>?_,(λx hx=>by cases hx)⟩
 ·rw[List.mem_singleton.1 hx];unfold aj;decide
 ·rw[List.mem_singleton.1 hx];refine⟨⟨λj=>?_,?_⟩,?_⟩
  ·show(0:Int)<=0/\(0:Int)<4294967296;decide
  ·show(0:Int)<=64/\(64:Int)<4294967296;decide
  ·show aj 1;unfold aj;decide
theorem Xw:(kM Br).1=0:=Zx
end
section
variable {w:World}
def Ce:List Value:=jQ .u32 (λ_=>0)++[Zu 64]
theorem Ye (w:World):(Instr.build 108 #[(1,Zu 64)]).run prog w=.ok (.agg Ce.toArray) w:=Zx
theorem X5 (w:World):(Instr.build 110 #[(0,Zi 1),(3,.bool true),(4,.agg Ce.toArray)]).run prog w=.ok (.agg (jx ra).toArray) w:=Zx
theorem X0 (w:World):(Instr.buildSlice 28 1 #[(0,.agg (jx ra).toArray)]).run prog w=.ok (Zs w.heap.size 1 1) (w.alloc (.cells (jx ra).toArray 110)):=Zx
theorem Wa {o:Oper} {act:Act} {K:Act->World->Prop} {Q:Exit->Act->World->Prop} (x:Operand) (d:Nat) (ho:o.op=.build 108 #[(1,x)]) (hd:o.dst=some d) (h0:act.eval x=Zu 64) (hK:K (act.put (some d) (.agg Ce.toArray)) w):Oper.wp prog o act w K Q:=by
 have aM:=Ye w;generalize Ce.toArray=z at aM hK;unfold Oper.wp;simp only[execOp,ho];simp[h0,aM,Result.andThen];rw[Oper.upon_value,hd];exact hK
theorem V6 {o:Oper} {act:Act} {K:Act->World->Prop} {Q:Exit->Act->World->Prop} (x0 x3 x4:Operand) (d:Nat) (ho:o.op=.build 110 #[(0,x0),(3,x3),(4,x4)]) (hd:o.dst=some d) (h0:act.eval x0=Zi 1) (h3:act.eval x3=.bool true) (h4:act.eval x4=.agg Ce.toArray) (hK:K (act.put (some d) (.agg (jx ra).toArray)) w):Oper.wp prog o act w K Q:=by
 have aM:=X5 w;generalize Ce.toArray=y at aM h4;generalize (jx ra).toArray=z at aM hK;unfold Oper.wp;simp only[execOp,ho];simp[h0,h3,h4,aM,Result.andThen];rw[Oper.upon_value,hd];exact hK
theorem VZ {o:Oper} {act:Act} {K:Act->World->Prop} {Q:Exit->Act->World->Prop} (x:Operand) (d:Nat) (ho:o.op=.buildSlice 28 1 #[(0,x)]) (hd:o.dst=some d) (hx:act.eval x=.agg (jx ra).toArray) (h:K (act.put (some d) (Zs w.heap.size 1 1)) (w.alloc (.cells (jx ra).toArray 110))):Oper.wp prog o act w K Q:=by
 have aM:=X0 w;generalize (jx ra).toArray=c at aM hx h;unfold Oper.wp;simp only[execOp,ho];simp[hx,aM,Result.andThen];rw[Oper.upon_value,hd];exact h
theorem il.one {α:Type} {L:Lay α} {g:Nat} {t:TypeId} {x:α} (h:w.heap[g]?=some (.cells (L.cf x).toArray t (0,0))):il L w (Zs g 1 1) [x]:=by
 refine⟨some ⟨g,0,none⟩,1,rfl,⟨Nat.le_refl _,Zd⟩,λk hk=>⟨g,0,rfl,au h,λj hj=>?_⟩⟩;have ie:k=0:=by have:k<1:=hk;omega
 subst ie;rw[show(0+0*L.sz+j)=j from Zo,cell_of_row _ _ j _ _ (0,0) h,List.getElem?_toArray];rfl
theorem il.none {α:Type} {L:Lay α}:il L w (.slice none 0 0) []:=⟨_,0,rfl,⟨Nat.le_refl _,Zd⟩,λk hk=>absurd hk (Nat.not_lt_zero _)⟩
theorem Oo (w:World):Zk 6 #[] w λe w'=>∃vt vo vb vc vm vr vi,Zr e (.agg #[Zi 2,vt,Zu 1073741822,vo,vb,vc,vm,vr,vi])/\vu w' vt vo vb vc vm vr vi Br/\Zq w w':=by
 obtain⟨R,hR⟩:∃R:Ending->World->Prop,R=λe w'=>∃vt vo vb vc vm vr vi,Zr e (.agg #[Zi 2,vt,Zu 1073741822,vo,vb,vc,vm,vr,vi])/\vu w' vt vo vb vc vm vr vi Br/\Zq w w':=⟨_,rfl⟩
 rw[<-hR]
 have HF:Hid (R (.returned (.agg #[Zi 2,.slice (some ⟨w.heap.size+1,0,none⟩) 1 1,Zu 1073741822,.slice (some ⟨w.heap.size+1+1,0,none⟩) 1 1,.slice none 0 0,.slice none 0 0,.slice none 0 0,.slice (some ⟨w.heap.size+1+1+1,0,none⟩) 1 1,.slice none 0 0]))
   ((((w.alloc (.cells #[Zi 2,.slice (some ⟨w.heap.size+1,0,none⟩) 1 1,Zu 1073741822,.slice (some ⟨w.heap.size+1+1,0,none⟩) 1 1,.slice none 0 0,.slice none 0 0,.slice none 0 0,.slice (some ⟨w.heap.size+1+1+1,0,none⟩) 1 1,.slice none 0 0] 31)).alloc (.cells #[Zi 0,Zi 1] 120)).alloc (.cells #[Zi 6,Zi 1,Zi 0] 87)).alloc (.cells (jx ra).toArray 110))):=by
  generalize (Obj.cells #[Zi 2,.slice (some ⟨w.heap.size+1,0,none⟩) 1 1,Zu 1073741822,.slice (some ⟨w.heap.size+1+1,0,none⟩) 1 1,.slice none 0 0,.slice none 0 0,.slice none 0 0,.slice (some ⟨w.heap.size+1+1+1,0,none⟩) 1 1,.slice none 0 0] 31)=o0;have s0:(w.alloc o0).heap.size=w.heap.size+1:=by simp
  obtain⟨w1,ag⟩:=Ze (w.alloc o0);have a1:=Za ag;rw[<-ag] at s0|-;have b2:=heap_alloc_last w1 (.cells #[Zi 0,Zi 1] 120);obtain⟨w2,aT⟩:=Ze (w1.alloc (.cells #[Zi 0,Zi 1] 120));have a2:=Za aT;have s2:w2.heap.size=w.heap.size+1+1:=by rw[aT,<-s0];simp
  rw[<-aT] at b2|-;have b3:=heap_alloc_last w2 (.cells #[Zi 6,Zi 1,Zi 0] 87);obtain⟨w3,dz⟩:=Ze (w2.alloc (.cells #[Zi 6,Zi 1,Zi 0] 87));have a3:=Za dz;have s3:w3.heap.size=w.heap.size+1+1+1:=by rw[dz,<-s2];simp
  rw[<-dz] at b3|-;have b4:=heap_alloc_last w3 (.cells (jx ra).toArray 110);obtain⟨w4,eF⟩:=Ze (w3.alloc (.cells (jx ra).toArray 110));have a4:=Za eF;rw[<-eF] at b4|-;rw[s0] at b2;rw[s2] at b3;rw[s3] at b4;rw[hR];exact⟨_,_,_,_,_,_,_,rfl,⟨il.one (L:=aJ) (x:=(0,1)) (ae.keep (a3.trans a4) b2 (λh=>h)),il.one (L:=oN) (x:=(6,1,0)) (ae.keep a4 b3 (λh=>h)),il.none,il.none,il.none,il.one (L:=mU) (x:=ra) b4,il.none⟩,a1.trans (a2.trans (a3.trans a4))⟩
 clear hR;go_enter func6,ntmps6;go_wp2_with (first|(refine wpList_plain rfl (λ_ hK=>Wa (.const (Zu 64)) 6 rfl rfl rfl (hK _ _ ?_)))|(refine wpList_plain rfl (λ_ hK=>V6 (.const (Zi 1)) (.const (.bool true)) (.tmp 6) 7 rfl rfl rfl rfl rfl (hK _ _ ?_)))|(refine wpList_plain rfl (λ_ hK=>VZ (.tmp 7) 8 rfl rfl rfl (hK _ _ ?_))))
 all_goals
  (try simp only[Exit.inBlock,Exit.then])
  refine bodyPost_ret (v:=.agg #[Zi 2,.slice (some ⟨w.heap.size+1,0,none⟩) 1 1,Zu 1073741822,.slice (some ⟨w.heap.size+1+1,0,none⟩) 1 1,.slice none 0 0,.slice none 0 0,.slice none 0 0,.slice (some ⟨w.heap.size+1+1+1,0,none⟩) 1 1,.slice none 0 0]) ?_ rfl HF.j;simp only[results,f6];go_simp
  try rfl
end
section
variable {w wv w1 w2:World} {S:Sk}
theorem PM {W w:World} (gg:mL w) {vt vo vb vc vm vr vi:Value} (di:vu w vt vo vb vc vm vr vi Br):Zk 4 #[.agg #[Zi 2,vt,Zu 1073741822,vo,vb,vc,vm,vr,vi]] w λe w'=>∃kb,Zr e (.tuple #[Zp kb,Zi 0,Zi 0])/\Hid (Zq w w'):=by
 refine(Qj gg Br Xv di).m ?_;rintro e w' ⟨ho,⟨h1,_⟩|⟨_,_,kb,_,_,_,_,_,_,rfl,_⟩⟩
 ·exact absurd Xw h1
 ·exact⟨kb,rfl,ho⟩
theorem acz {W:World} (gg:mL W) (S:Sk) (hS:A5 S) {vt vo vb vc vm vr vi:Value} (di:vu W vt vo vb vc vm vr vi S):
  Zk 3 #[.agg #[Zi S.n,vt,Zu (S.c:Int),vo,vb,vc,vm,vr,vi]] W λe w'=>Zr e (.bool true)/\Below W.heap.size W w':=by
 obtain⟨pt,ct,rfl,_⟩:=di.ts;obtain⟨mY,oy,aB,_⟩:=di.ob;obtain⟨kV,lV,cY,_⟩:=di.cP
 obtain⟨nh,oB,ew,_⟩:=di.cp;obtain⟨mZ,oz,ia,_⟩:=di.mp;obtain⟨mX,ox,Dt,_⟩:=di.th;obtain⟨na,oA,vd,_⟩:=di.iq;subst aB cY ew ia Dt vd;obtain⟨w1,ag⟩:=Ze (W.alloc (.cells #[Zi S.n,.slice pt S.ts.length ct,Zu (S.c:Int),.slice mY S.ob.length oy,.slice kV S.cP.length lV,.slice nh S.cp.length oB,.slice mZ S.mp.length oz,.slice mX S.th.length ox,.slice na S.iq.length oA] 31));obtain⟨ob,az⟩:=Ze (W.heap.size);have aB:=Za ag;have cY:w1.heap[ob]?=some (.cells #[Zi S.n,.slice pt S.ts.length ct,Zu (S.c:Int),.slice mY S.ob.length oy,.slice kV S.cP.length lV,.slice nh S.cp.length oB,.slice mZ S.mp.length oz,.slice mX S.th.length ox,.slice na S.iq.length oA] 31 (0,0)):=by rw[ag,az];exact heap_alloc_last W _
 have Cu:Hid (∀wv,Zq W wv->mL wv):=λwv h=>gg.quiet h
 have HR:Hid (∀wv,Zq W wv->(Ending.returned (.bool true)=.returned (.bool true)/\Below W.heap.size W wv)):=λwv h=>⟨rfl,h.below (Nat.le_refl _) (λ_ _ h=>h)⟩
 have dS:=aa (Qj (gg.quiet aB) S hS (di.keep aB));have UJ:Hid (∀wv,Zq w1 wv->Zk 5 #[Zp ob] wv (Nx wv S)):=λwv h=>afq S hS ((di.keep aB).keep h) (ae.keep h cY (λh=>h))
 have fR:Hid ((kM S).1=0->aE (A2 S)):=λh=>afo hS h
 obtain⟨q0,q1,q2,q3,q4,q5,q6,q7,q8⟩:w1.cell? ⟨ob,0,none⟩=some (Zi S.n)/\w1.cell? ⟨ob,1,none⟩=some (.slice pt S.ts.length ct)/\w1.cell? ⟨ob,2,none⟩=some (Zu (S.c:Int))/\w1.cell? ⟨ob,3,none⟩=some (.slice mY S.ob.length oy)/\w1.cell? ⟨ob,4,none⟩=some (.slice kV S.cP.length lV)/\w1.cell? ⟨ob,5,none⟩=some (.slice nh S.cp.length oB)/\w1.cell? ⟨ob,6,none⟩=some (.slice mZ S.mp.length oz)/\w1.cell? ⟨ob,7,none⟩=some (.slice mX S.th.length ox)/\w1.cell? ⟨ob,8,none⟩=some (.slice na S.iq.length oA):=
  ⟨Zl cY,Zl cY,Zl cY,Zl cY,Zl cY,Zl cY,Zl cY,Zl cY,Zl cY⟩
 have bX:=aa aB;obtain⟨R,hR⟩:∃R:Ending->World->Prop,R=(λe w'=>Zr e (.bool true)/\Below W.heap.size W w'):=⟨_,rfl⟩
 rw[<-hR];have df:Hid (∀wv,Zq W wv->R (.returned (.bool true)) wv):=by rw[hR];exact HR
 have Uf:Hid (∀b wv w5,Zq W w5->W.heap.size<=b->ae (λk=>b<=k) w5 wv->R (.returned (.bool true)) wv):=λb wv w5 h1 h2 h3=>by
  rw[hR];exact⟨rfl,ae.below ((h1.f).trans h3) (Nat.le_refl _) (λk hk h=>Zo)⟩
 clear gg hS di aB cY hR HR;go_enter func3,ntmps3;go_upto_region 1 with fail
 rw[<-ag,<-az];clear ag az;go_wp2_with fail;refine dS.j.m ?_;rintro e w2 ⟨aC,hq⟩;clear q0 q1 q2 q3 q4 q5 q6 q7 q8 dS;have fZ:=aa (UJ.j w2 aC);have aL:=aa (bX.j.trans aC);clear UJ;rcases hq with⟨hE,rfl⟩|⟨hE,hE2,kb,mb,sb,pb,qb,bb,tb,rfl,_,hx⟩
 ·clear aC fR Uf
  replace fZ:Hid (Zk 5 #[Zp ob] w2 λe w'=>Zr e (.tuple #[.pointer none,Zi (kM S).1,Zi ((kM S).2:Nat)])/\Hid (Zq W w')):=by
   refine fZ.j.m ?_;rintro e w' ⟨ho,⟨_,rfl⟩|⟨h,_⟩⟩
   ·exact⟨rfl,aL.j.trans ho⟩
   ·exact absurd h hE
  clear hE;generalize (kM S).1=e0 at*;generalize (kM S).2=n0 at*;go_wp2_with fail;refine fZ.j.m ?_;rintro e w3 ⟨rfl,bD⟩;clear fZ;go_wp2_with fail;refine(Oo w3).m ?_;rintro e w4 ⟨vt,vo,vb,vc,vm,vr,vi,rfl,di,bL⟩;have rW:=aa (bD.j.trans bL);have E3:=aa (PM (W:=W) (Cu.j _ rW.j) di);clear di bL;go_wp2_with fail;refine E3.j.m ?_;rintro e w5 ⟨kx,rfl,eG⟩;have HZ:=aa (df.j _ (rW.j.trans eG.j));clear eG E3;go_wp2_with fail
  all_goals
   first|(go_ret3;exact HZ.j)|exact HZ.j
 ·have HX:=aa hx;have age:=aa aC;have HW:=aa (fR.j hE);clear hx aC fR hE2
  replace fZ:Hid (Zk 5 #[Zp ob] w2 λe w'=>∃rk rm rs rp rq rb,Zr e (.tuple #[Zp rk,Zi 0,Zi 0])/\Hid (fF (λk=>k<w2.heap.size) w' rk rm rs rp rq rb (A2 S))/\Hid (Zq w2 w')):=by
   refine fZ.j.m ?_;rintro e w' ⟨ho,⟨h,rfl⟩|⟨h,_,rk,rm,rs,rp,rq,rb,rfl,_,hr⟩⟩
   ·exact absurd hE h
   ·exact⟨rk,rm,rs,rp,rq,rb,rfl,hr,ho⟩
  clear hE;generalize A2 S=K at*;go_wp2_with fail;refine fZ.j.m ?_;rintro e w3 ⟨rk,rm,rs,rp,rq,rb,rfl,Ir,Na⟩;have bD:=aa (aL.j.trans Na.j);clear fZ;go_wp2_with fail;refine(Oo w3).m ?_;rintro e w4 ⟨vt,vo,vb,vc,vm,vr,vi,rfl,di,bL⟩;have rW:=aa (bD.j.trans bL);have E3:=aa (PM (W:=W) (Cu.j _ rW.j) di);have Ur:=aa bL;clear di bL;go_wp2_with fail;refine E3.j.m ?_;rintro e w5 ⟨kx,rfl,eG⟩;have IA:=aa (Ur.j.trans eG.j);clear eG E3 Ur;obtain⟨w6,rF⟩:=Ze (w5.alloc (.cells #[.slice none 0 0,.slice none 0 0,.slice none 0 0,.slice none 0 0,.slice none 0 0,.slice none 0 0] 49));obtain⟨bk,kJ⟩:=Ze (w5.heap.size);have KL:=Za rF;have HL:=aa (acm HX.j Na.j Ir.j (IA.j.trans KL) (bk:=bk) (by rw[rF,kJ];exact heap_alloc_last w5 _) (by rw[kJ];exact IA.j.size));have p8:=aa (bD.j.trans (IA.j.trans KL));have HB:Hid (W.heap.size<=w3.heap.size):=bD.j.size;have iu:=aa (Qi HL.j HW.j HW.j.TP HW.j.TO (by have:=HW.j.ne;omega) (λj=>Nat.zero_le _));clear KL HL HX Ir Na age IA rW aL bX;go_upto_region 11 with fail
  rw[<-rF,<-kJ];clear rF kJ;go_wp2_with fail;refine iu.j.m ?_;rintro e w7 ⟨rfl,L2,kH,RQ,su⟩;have lE:=aa (Qi RQ HW.j HW.j.TP HW.j.TO (by have:=HW.j.ne;omega) (λj=>by have:=kH j;simp at this;omega));have HO7:=aa su;clear iu RQ kH su;go_wp2_with fail;refine lE.j.m ?_;rintro e w8 ⟨rfl,_,_,_,DI⟩;have HZ:=aa (Uf.j _ _ _ p8.j HB.j (HO7.j.trans DI));clear DI lE;go_wp2_with fail
  all_goals
   first|(go_ret3;exact HZ.j)|exact HZ.j
end
end Go.Proofs.YtphkconoooeidaaGreatDoor

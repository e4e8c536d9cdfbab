import Derived.Test.YtphkconoooeidaaGreatDoorCp6
import Derived.Test.YtphkconoooeidaaGreatDoorCp10
import Derived.Test.YtphkconoooeidaaGreatDoorCp14
import Derived.Test.YtphkconoooeidaaGreatDoorCp15
import Derived.Test.YtphkconoooeidaaGreatDoorCp16
set_option maxRecDepth 100000
set_option maxHeartbeats 8000000
set_option linter.unusedVariables false
set_option linter.unusedSimpArgs false
open Go Go.Vx Go.Proofs.Tryz Go.ChangeShapes Go.WideShapes Go.ChangeAt Go.RowKit
namespace Go.Proofs.YtphkconoooeidaaGreatDoor
section
variable {U V S:Nat->Prop} {w w2:World} {xb pb mb gb N:Nat} {P:Int} {D:DataW Value} {os rs:Lp}
theorem lX.step (h:lX U w pb P os rs) (ho:ae S w w2) (hS:∀k,k<w.heap.size->S k->U k) (hV:∀k,V k->U k\/(w.heap.size<=k/\k<w2.heap.size)):lX V w2 pb P os rs:=by
 obtain⟨vo,vr,h⟩:=h;have RA:∀k,vo.ownBlock=some k->k<w.heap.size:=λk hk=>(cH h.o hk).2
 have yD:∀k,vr.ownBlock=some k->k<w.heap.size:=λk hk=>(cH h.g hk).2
 have hr:=au h.r;have h2:=h.aside ho (λs=>h.ur (hS _ hr s)) (λk hk s=>h.uo k hk (hS _ (RA k hk) s)) (λk hk s=>h.ug k hk (hS _ (yD k hk) s));refine⟨vo,vr,h2.r,h2.o,h2.g,λhv=>?_,λk hk hv=>?_,λk hk hv=>?_,λk hv=>?_,h2.no,h2.ng⟩
 ·rcases hV _ hv with h3|h3
  ·exact h.ur h3
  ·omega
 ·rcases hV _ hv with h3|h3
  ·exact h.uo k hk h3
  ·have:=RA k hk;omega
 ·rcases hV _ hv with h3|h3
  ·exact h.ug k hk h3
  ·have:=yD k hk;omega
 ·rcases hV _ hv with h3|h3
  ·exact Nat.lt_of_lt_of_le (h.low k h3) ho.size
  ·exact h3.2
def gz (os:Lp) (q:Int):Int×Int:=match Ci os q with|none=>(0,0)|some i=>os.getD i (0,0)
theorem Po (os:Lp) (q:Int):(∃o∈os,o.2=q)\/∀o∈os,o.2≠q:=by
 by_cases h:∃o∈os,o.2=q
 ·exact Or.inl h
 ·exact Or.inr λo ho hq=>h ⟨o,ho,hq⟩
theorem JD {q:Int} (h:∀o∈os,o.2≠q):gz os q=(0,0):=by
 unfold gz
 cases hi:Ci os q with
 |none=>rfl
 |some i=>
  obtain⟨hl,hp⟩:=uP hi;exact absurd (of_decide_eq_true hp) (h _ (List.getElem_mem hl))
theorem aae (hn:(os.map (·.2)).Nodup) {a b:Int×Int} (ha:a∈os) (hb:b∈os) (h:a.2=b.2):a=b:=by
 obtain⟨i,hi,rfl⟩:=List.getElem_of_mem ha;obtain⟨j,hj,rfl⟩:=List.getElem_of_mem hb;have h1:=List.pairwise_iff_getElem.1 hn;rcases Nat.lt_trichotomy i j with h2|h2|h2
 ·exact absurd (by rw[List.getElem_map,List.getElem_map];exact h) (h1 i j (by simpa using hi) (by simpa using hj) h2)
 ·subst h2;rfl
 ·exact absurd (by rw[List.getElem_map,List.getElem_map];exact h.symm) (h1 j i (by simpa using hj) (by simpa using hi) h2)
theorem xO (hn:(os.map (·.2)).Nodup) {o:Int×Int} (h:o∈os):gz os o.2=o:=by
 unfold gz
 cases hi:Ci os o.2 with
 |none=>have:=mu hi o h;simp at this
 |some i=>
  obtain⟨hl,hp⟩:=uP hi;have h1:os.getD i (0,0)=os[i - 0]:=by simp[List.getD_eq_getElem?_getD];rw[List.getElem?_eq_getElem (by simpa using hl)];rfl
  dsimp only;rw[h1];exact aae hn (List.getElem_mem hl) h (of_decide_eq_true hp)
def fC (N:Nat) (os:Lp):Lp:=(List.range N).map (λk:Nat=>gz os (k:Int))
theorem uE (N:Nat) (os:Lp):(fC N os).length=N:=by unfold fC;simp
theorem uF (k:Nat) (hk:k<(fC N os).length):(fC N os)[k]=gz os (k:Int):=by
 have h2:k<N:=by rw[uE] at hk;exact hk
 have h:(fC N os)[k]?=some (gz os (k:Int)):=by unfold fC;rw[List.getElem?_map,List.getElem?_range h2];rfl
 rw[List.getElem?_eq_getElem hk] at h;injection h
theorem Yy {kW:Lp} {q:Nat} {y:Int×Int} (h1:gz kW (q:Int)=y) (h2:∀k:Nat,k≠q->gz kW (k:Int)=gz os (k:Int)):fC N kW=(fC N os).set q y:=by
 apply List.ext_getElem
 ·rw[List.length_set,uE,uE]
 ·intro k h3 h4;rw[uF,List.getElem_set];by_cases hk:q=k
  ·subst hk;rw[if_pos rfl,h1]
  ·rw[if_neg hk,uF,h2 k (λe=>hk e.symm)]
theorem Pp {o:Int×Int} (hn:(os.map (·.2)).Nodup) (hf:∀x∈os,x.2≠o.2) (q:Int):gz (os++[o]) q=if q=o.2 then o else gz os q:=by
 have lO:((os++[o]).map (·.2)).Nodup:=by
  rw[List.map_append,List.nodup_append];refine⟨hn,by simp,λa ha b hb=>?_⟩;obtain⟨x,hx,rfl⟩:=List.mem_map.1 ha;simp only[List.map_cons,List.map_nil,List.mem_singleton] at hb;rw[hb];exact hf x hx
 by_cases hq:q=o.2
 ·rw[if_pos hq,hq];exact xO lO (by simp)
 ·rw[if_neg hq];rcases Po os q with⟨x,hx,rfl⟩|h
  ·rw[xO hn hx];exact xO lO (by simp[hx])
  ·rw[JD h];refine JD λx hx=>?_
   rcases List.mem_append.1 hx with hx|hx
   ·exact h x hx
   ·rw[List.mem_singleton] at hx;subst hx;exact λe=>hq e.symm
theorem CX (h:fk P os rs) (q:Int):(gz os q).1≠0↔∃o∈os,o.2=q:=by
 rcases Po os q with⟨x,hx,rfl⟩|hq
 ·rw[xO h.on hx];have:=h.ok x hx;exact⟨λ_=>⟨x,hx,rfl⟩,λ_=>Zo⟩
 ·rw[JD hq];exact⟨λh=>absurd rfl h,λ⟨o,ho,he⟩=>absurd he (hq o ho)⟩
theorem afN (P:Int) (os:Lp) (q:Int) (h:0<=q/\q<P):atR P os q=(gz os q,0):=by
 unfold atR gz;rw[if_neg Zo];cases Ci os q<;>rfl
structure cA (U:Nat->Prop) (w:World) (xb mb gb:Nat) (D:DataW Value) (N:Nat) (os rs:Lp):Prop where
 x:w.heap[xb]?=some (.cells #[.map (some mb),Zs gb N N] 249 (0,0))
 m:w.ownsMap prog 3 RI mb rs.length D
 hs:∀k,aj k->Maps.has D (.int .i64 k)=(jP rs k).isSome
 ha:∀k i z,jP rs k=some i->D.atKey (.int .i64 k) z=.lit (.int .i64 (rs.getD i (0,0)).2)
 pg:ai aJ w 0 85 (Zs gb N N) (fC N os)
 ux:¬U xb
 um:¬U mb
 ug:¬U gb
 low:∀k,U k->k<w.heap.size
theorem cA.gl (h:cA U w xb mb gb D N os rs):gb<w.heap.size:=(cH h.pg rfl).2
theorem cA.aside (h:cA U w xb mb gb D N os rs) (ho:ae S w w2) (s1:¬S xb) (s2:¬S mb) (s3:¬S gb) (v1:¬V xb) (v2:¬V mb) (v3:¬V gb) (vl:∀k,V k->k<w2.heap.size):cA V w2 xb mb gb D N os rs:=
 ⟨ae.keep ho h.x s1,JV h.m ho s2,h.hs,h.ha,h.pg.kept ho (λj hj=>by
  have:gb=j:=by simpa[Value.ownBlock] using hj
  rw[<-this];exact s3),v1,v2,v3,vl⟩
theorem cA.step (h:cA U w xb mb gb D N os rs) (ho:ae S w w2) (hS:∀k,k<w.heap.size->S k->U k) (hV:∀k,V k->U k\/(w.heap.size<=k/\k<w2.heap.size)):cA V w2 xb mb gb D N os rs:=by
 have l1:=au h.x;have l2:=h.m.lt;have l3:=h.gl
 have hv:∀k,k<w.heap.size->¬U k->¬V k:=λk hk hu hv=>by
  rcases hV k hv with h3|h3
  ·exact hu h3
  ·omega
 exact h.aside ho (λs=>h.ux (hS _ l1 s)) (λs=>h.um (hS _ l2 s)) (λs=>h.ug (hS _ l3 s)) (hv _ l1 h.ux) (hv _ l2 h.um) (hv _ l3 h.ug) (λk hk=>by
  rcases hV k hk with h3|h3
  ·exact Nat.lt_of_lt_of_le (h.low k h3) ho.size
  ·exact h3.2)
theorem cA.quiet (h:cA U w xb mb gb D N os rs) (ho:Zq w w2):cA U w2 xb mb gb D N os rs:=h.step ho (λ_ _ h=>h.elim) (λ_ h=>Or.inl h)
theorem cA.c0 (h:cA U w xb mb gb D N os rs):w.cell? ⟨xb,0,none⟩=some (.map (some mb)):=Zl h.x
theorem cA.c1 (h:cA U w xb mb gb D N os rs):w.cell? ⟨xb,1,none⟩=some (Zs gb N N):=Zl h.x
theorem cA.F9 (h:cA U w xb mb gb D N os rs) (k:Nat) (hk:k<N):w.cell? ⟨gb,k*2,none⟩=some (.int .i64 (gz os (k:Int)).1)/\w.cell? ⟨gb,k*2+1,none⟩=some (.int .i64 (gz os (k:Int)).2):=by
 have hl:k<(fC N os).length:=by rw[uE];exact hk
 have a:=h.pg.cell k 0 hl Zd;have b:=h.pg.cell k 1 hl Zd;rw[uF] at a b;exact⟨a,b⟩
theorem cA.look (h:cA U w xb mb gb D N os rs) (k:Int) (hk:aj k):
  (Instr.lookup 247 (.map (some mb)) (.int .i64 k) true).run prog w=.ok (.tuple #[.int .i64 (gL rs k).1,.bool (jP rs k).isSome]) w:=by
 obtain⟨v2,ZS,rG,aP⟩:=h.m.look_ok (t:=247) (e:=3) oO underlying247 (abn w) (PX (k:=0) (by unfold aj;omega)) (xZ hk)
 have hD:D.atKey (.int .i64 k) (.lit (.int .i64 0))=.lit (.int .i64 (gL rs k).1):=by
  unfold gL
  cases hs:jP rs k with
  |some i=>exact h.ha k i _ hs
  |none=>exact Maps.atKey_of_not_has (by rw[h.hs k hk,hs];rfl) _
 rw[hD] at aP;obtain⟨a,rfl,he,_⟩:=OO aP;simp only[Prod.mk.injEq,DataW.lit.injEq,Lit.int.injEq,true_and] at he;rw[rG,he.1,h.hs k hk]
theorem FW {n:Int} (h:n∈rs.map (·.1)):∃i,jP rs n=some i:=by
 obtain⟨r,hr,rfl⟩:=List.mem_map.1 h
 cases hi:jP rs r.1 with
 |some i=>exact⟨i,rfl⟩
 |none=>have:=mu hi r hr;simp at this
theorem JX {n:Int} (h:(jP rs n).isSome=true):n∈rs.map (·.1):=by
 obtain⟨i,hi⟩:=Option.isSome_iff_exists.1 h;obtain⟨hl,hE⟩:=FX hi;exact List.mem_map.2 ⟨_,List.getElem_mem hl,hE⟩
def nL (U:Nat->Prop) (w:World) (xb:Nat) (P:Int) (os rs:Lp):Prop:=fk P os rs/\∃mb gb D N,P=((N:Nat):Int)/\cA U w xb mb gb D N os rs
theorem nL.wf (h:nL U w xb P os rs):fk P os rs:=h.1
theorem nL.step (h:nL U w xb P os rs) (ho:ae S w w2) (hS:∀k,k<w.heap.size->S k->U k) (hV:∀k,V k->U k\/(w.heap.size<=k/\k<w2.heap.size)):nL V w2 xb P os rs:=by
 obtain⟨hw,mb,gb,D,N,hP,hx⟩:=h;exact⟨hw,mb,gb,D,N,hP,hx.step ho hS hV⟩
end
def kz (bm n:Nat) (f:Nat->UInt8):dR:=λU w=>dF U w bm n f
def me (xb:Nat) (bs:Lp) (es:List En):dR:=λU w=>jL U w xb bs es
def nM (xb:Nat) (P:Int) (os rs:Lp):dR:=λU w=>nL U w xb P os rs
def jX (xb:Nat) (ts:Lp) (t:Nat) (lf:Int) (es:List Et) (ck:Nat):dR:=λU w=>rN U w xb ts t lf es ck
def qX (xb:Nat) (s:Bs):dR:=λU w=>qO U w xb s
def sG (br n:Nat) (f:Nat->UInt8):dR:=λU w=>∃bb,cR w br bb n f/\¬U br/\¬U bb/\∀k,U k->k<w.heap.size
def p4 (rb:Nat) (bs:Lp) (es:List En):dR:=λU w=>ju U w rb bs es
def Cm (pb:Nat) (P:Int) (os rs:Lp):dR:=λU w=>lX U w pb P os rs
def za (sb:Nat) (ts:Lp) (t:Nat) (lf:Int) (es:List Et) (ck:Nat):dR:=λU w=>A6 U w sb ts t lf es ck
def rP (rb:Nat) (s:Bs):dR:=λU w=>zg U w rb s
theorem kz.bj (bm n:Nat) (f:Nat->UInt8):ik (kz bm n f):=by
 rintro U V S w w2 ⟨bp,q,h⟩ ho hS hV;have h2:=h.only ho (λk a b=>hS k b a)
 have hb:∀b,b<w.heap.size->¬U b->¬V b:=λb h1 h3 h4=>by
  rcases hV b h4 with h5|h5
  ·exact h3 h5
  ·omega
 refine⟨bp,q,h2.pos,h2.top,h2.m,h2.p,h2.nil,h2.pg,h2.inj,hb _ (au h.m) h.um,hb _ (au h.p) h.up,λi b hi hq=>hb _ (au (h.pg i hi b hq)) (h.ug i b hi hq),λk hk=>?_⟩;have hs:=ho.size;rcases hV k hk with h5|h5
 ·have:=h.low k h5;omega
 ·exact h5.2
theorem sG.bj (br n:Nat) (f:Nat->UInt8):ik (sG br n f):=by
 rintro U V S w w2 ⟨bb,h,h1,h2,h3⟩ ho hS hV
 have hb:∀b,b<w.heap.size->¬U b->¬V b:=λb h1 h3 h4=>by
  rcases hV b h4 with h5|h5
  ·exact h3 h5
  ·omega
 have hs:=ho.size;refine⟨bb,h.only ho (λs=>h1 (hS _ (au h.r) s)) (λs=>h2 (hS _ (au h.b) s)),hb _ (au h.r) h1,hb _ (au h.b) h2,λk hk=>?_⟩;rcases hV k hk with h5|h5
 ·have:=h3 k h5;omega
 ·exact h5.2
theorem me.bj (xb:Nat) (bs:Lp) (es:List En):ik (me xb bs es):=λU V S w w2 h ho hS hV=>jL.step h ho hS hV
theorem nM.bj (xb:Nat) (P:Int) (os rs:Lp):ik (nM xb P os rs):=λU V S w w2 h ho hS hV=>nL.step h ho hS hV
theorem jX.bj (xb:Nat) (ts:Lp) (t:Nat) (lf:Int) (es:List Et) (ck:Nat):ik (jX xb ts t lf es ck):=λU V S w w2 h ho hS hV=>rN.step h ho hS hV
theorem qX.bj (xb:Nat) (s:Bs):ik (qX xb s):=λU V S w w2 h ho hS hV=>qO.step h ho hS hV
theorem p4.bj (rb:Nat) (bs:Lp) (es:List En):ik (p4 rb bs es):=λU V S w w2 h ho hS hV=>ju.step h ho hS hV
theorem Cm.bj (pb:Nat) (P:Int) (os rs:Lp):ik (Cm pb P os rs):=λU V S w w2 h ho hS hV=>lX.step h ho hS hV
theorem za.bj (sb:Nat) (ts:Lp) (t:Nat) (lf:Int) (es:List Et) (ck:Nat):ik (za sb ts t lf es ck):=λU V S w w2 h ho hS hV=>by
 obtain⟨vt,vl,h⟩:=h;exact⟨vt,vl,h.step ho hS hV⟩
theorem rP.bj (rb:Nat) (s:Bs):ik (rP rb s):=λU V S w w2 h ho hS hV=>zg.step h ho hS hV
end Go.Proofs.YtphkconoooeidaaGreatDoor
namespace Go.Vx
def jQ (k:IntKind) (rg:Nat->Int):List Value:=(List.range 32).map λj=>.int k (rg j)
theorem rh (k:IntKind) (rg:Nat->Int):(jQ k rg).length=32:=by simp[jQ]
theorem FY (k:IntKind) (rg:Nat->Int):∀u∈jQ k rg,u.oneCell'=true:=λu hu=>by
 obtain⟨j,_,rfl⟩:=List.mem_map.1 hu;rfl
theorem OR (k:IntKind) (rg:Nat->Int) {j:Nat} (h:j<32):(jQ k rg)[j]?=some (.int k (rg j)):=by simp[jQ,h]
end Go.Vx
namespace Go.Proofs.YtphkconoooeidaaGreatDoor
section
def aZ (t:Kt):List Value:=[Zi t.num,Zi t.st,Zi t.nK,Zi t.mT,.bool t.gr]++(jQ .i64 t.rg++[Zi t.pc])
def iL:Lay Kt:=⟨aZ,38,λt=>by simp[aZ,rh],λt u hu=>by
 rcases List.mem_append.1 hu with hu|hu
 ·simp only[List.mem_cons,List.not_mem_nil,or_false] at hu;rcases hu with rfl|rfl|rfl|rfl|rfl<;>rfl
 ·rcases List.mem_append.1 hu with hu|hu
  ·exact FY _ _ u hu
  ·rw[List.mem_singleton] at hu;rw[hu];rfl,Zd⟩
def eE (l:Ln):List Value:=[Zi l.dj,Zu l.jW,.bool l.pL,.bool l.pd]
def AX (mb sb pb qb bb:Nat) (vT:Value) (L:List Ln) (ci co:List (List UInt8)) (c:Nat):List Value:=
 [Zp mb,Zp sb,Zp pb,Zp qb,Zp bb,vT]++(L.flatMap eE++(ci.map fG++(co.map fG++[Zu (c:Int)])))
structure p3 (kb mb sb pb qb bb:Nat) (vT:Value) (T:List Kt) (L:List Ln) (ci co:List (List UInt8)) (c:Nat) (U:Nat->Prop) (w:World):Prop where
 k:w.heap[kb]?=some (.cells (AX mb sb pb qb bb vT L ci co c).toArray 75 (0,0))
 t:ai iL w 0 118 vT T
 uk:¬U kb
 ut:∀k,vT.ownBlock=some k->¬U k
 low:∀k,U k->k<w.heap.size
 nt:T.length<=1000
variable {kb mb sb pb qb bb:Nat} {vT:Value} {T:List Kt} {L:List Ln} {ci co:List (List UInt8)} {c:Nat} {U V S:Nat->Prop} {w w2:World} {K:Kn}
theorem p3.bj:ik (p3 kb mb sb pb qb bb vT T L ci co c):=by
 rintro U V S w w2 h ho hS hV
 have hb:∀b,b<w.heap.size->¬U b->¬V b:=λb h1 h3 h4=>by
  rcases hV b h4 with h5|h5
  ·exact h3 h5
  ·omega
 have hs:=ho.size;have hk:=au h.k;refine⟨(ho.block _ hk (λs=>h.uk (hS _ hk s))).trans h.k,h.t.kept ho (λk hk s=>h.ut k hk (hS k (cH h.t hk).2 s)),hb _ hk h.uk,λk hk=>hb _ (cH h.t hk).2 (h.ut k hk),λk hk=>?_,h.nt⟩;rcases hV k hk with h5|h5
 ·have:=h.low k h5;omega
 ·exact h5.2
abbrev krL (kb mb sb pb qb bb:Nat) (vT:Value) (K:Kn):List dR:=[sG mb K.n K.f,p4 sb K.bs K.es,Cm pb (K.n:Int) K.os K.rs,za qb K.ts K.t K.lf K.ss K.ck,rP bb K.b,p3 kb mb sb pb qb bb vT K.T K.L K.ci K.co K.c]
def aI (U:Nat->Prop) (w:World) (kb mb sb pb qb bb:Nat) (vT:Value) (K:Kn):Prop:=aD (krL kb mb sb pb qb bb vT K) U w
def ahr (U:Nat->Prop) (w:World) (kb:Nat) (K:Kn):Prop:=∃mb sb pb qb bb vT,aI U w kb mb sb pb qb bb vT K
theorem aI.own (h:aI U w kb mb sb pb qb bb vT K):∃U2:Nat->Prop,p3 kb mb sb pb qb bb vT K.T K.L K.ci K.co K.c U2 w/\∀k,U k->U2 k:=aD.at h 5 rfl
theorem aI.k (h:aI U w kb mb sb pb qb bb vT K):w.heap[kb]?=some (.cells (AX mb sb pb qb bb vT K.L K.ci K.co K.c).toArray 75 (0,0)):=by
 obtain⟨_,h,_⟩:=h.own;exact h.k
theorem aI.t (h:aI U w kb mb sb pb qb bb vT K):ai iL w 0 118 vT K.T:=by
 obtain⟨_,h,_⟩:=h.own;exact h.t
theorem aI.nt (h:aI U w kb mb sb pb qb bb vT K):K.T.length<=1000:=by
 obtain⟨_,h,_⟩:=h.own;exact h.nt
theorem aI.c0 (h:aI U w kb mb sb pb qb bb vT K):w.cell? ⟨kb,0,none⟩=some (Zp mb):=Zl h.k
theorem aI.c1 (h:aI U w kb mb sb pb qb bb vT K):w.cell? ⟨kb,1,none⟩=some (Zp sb):=Zl h.k
theorem aI.c2 (h:aI U w kb mb sb pb qb bb vT K):w.cell? ⟨kb,2,none⟩=some (Zp pb):=Zl h.k
theorem aI.c3 (h:aI U w kb mb sb pb qb bb vT K):w.cell? ⟨kb,3,none⟩=some (Zp qb):=Zl h.k
theorem aI.c4 (h:aI U w kb mb sb pb qb bb vT K):w.cell? ⟨kb,4,none⟩=some (Zp bb):=Zl h.k
theorem aI.c5 (h:aI U w kb mb sb pb qb bb vT K):w.cell? ⟨kb,5,none⟩=some vT:=Zl h.k
theorem aI.quiet (h:aI U w kb mb sb pb qb bb vT K) (ho:Zq w w2):aI U w2 kb mb sb pb qb bb vT K:=aD.quiet h ho
theorem aI.wide (h:aI U w kb mb sb pb qb bb vT K) (ho:Zq w w2):aI (Nu U w.heap.size w2.heap.size) w2 kb mb sb pb qb bb vT K:=aD.wide h ho
theorem aI.thin (h:aI V w kb mb sb pb qb bb vT K) (hU:∀k,U k->V k):aI U w kb mb sb pb qb bb vT K:=aD.thin h hU
theorem aI.vL (h:aI U w kb mb sb pb qb bb vT K):∃U2:Nat->Prop,lX U2 w pb (K.n:Int) K.os K.rs:=by
 obtain⟨U2,h,_⟩:=aD.at h 2 rfl;exact⟨U2,h⟩
theorem aI.o7 (h:aI U w kb mb sb pb qb bb vT K):∃U2:Nat->Prop,ju U2 w sb K.bs K.es:=by
 obtain⟨U2,h,_⟩:=aD.at h 1 rfl;exact⟨U2,h⟩
theorem aI.sched (h:aI U w kb mb sb pb qb bb vT K):∃U2:Nat->Prop,A6 U2 w qb K.ts K.t K.lf K.ss K.ck:=by
 obtain⟨U2,h,_⟩:=aD.at h 3 rfl;exact⟨U2,h⟩
theorem aI.tP (h:aI U w kb mb sb pb qb bb vT K):∃U2:Nat->Prop,zg U2 w bb K.b:=by
 obtain⟨U2,h,_⟩:=aD.at h 4 rfl;exact⟨U2,h⟩
theorem aI.mem (h:aI U w kb mb sb pb qb bb vT K):∃bx,cR w mb bx K.n K.f:=by
 obtain⟨U2,⟨bx,h,_⟩,_⟩:=aD.at h 0 rfl;exact⟨bx,h⟩
theorem aD.call {Ps:List dR} (h:aD Ps U w) (i:Nat) {P P2:dR} (hi:Ps[i]?=some P) (h2:ik P2) {f:FuncId} {args:Array Value} {v:Value} (hc:∀U2,P U2 w->Zk f args w λe w'=>Zr e v/\P2 U2 w'/\Zn U2 w w'):
  Zk f args w λe w'=>Zr e v/\aD (Ps.set i P2) U w'/\Zn U w w':=by
 obtain⟨U2,a,_,_,b⟩:=h.open i hi;refine(hc U2 a).m ?_;rintro e w' ⟨h3,h4,h5⟩;exact⟨h3,b P2 w' h2 h4 h5⟩
theorem aI.zero (h:aI U w kb mb sb pb qb bb vT K) (p:Int):Zk 114 #[Zp mb,Zi p] w λe w'=>Zr e (Zi ((j5 K.f K.n p).2:Nat))/\aI U w' kb mb sb pb qb bb vT {K with f:=(j5 K.f K.n p).1}/\Zn U w w':=by
 refine aD.call h 0 rfl (sG.bj mb K.n (j5 K.f K.n p).1) (λU2 ⟨bx,a,b,c,d⟩=>(YR a p).m ?_);rintro e w' ⟨h1,h2,h3⟩;have hs:=h3.size;exact⟨h1,⟨bx,h2,b,c,λk hk=>by have:=d k hk;omega⟩,h3.mono (λk _ hk h4=>by subst hk;exact c h4)⟩
theorem aI.make (h:aI U w kb mb sb pb qb bb vT K) (num n:Int) (hl:K.bs.length<1000000):Zk 115 #[Zp sb,Zi num,Zi n] w λe w'=>Zr e (Zi (gX K.bs num n))/\aI U w' kb mb sb pb qb bb vT {K with bs:=fH K.bs num n}/\Zn U w w':=
 aD.call h 1 rfl (p4.bj sb (fH K.bs num n) K.es) (λU2 a=>abT a num n hl)
theorem aI.zO (h:aI U w kb mb sb pb qb bb vT K) (n:Int) (b:Bool) (hl:K.b.ps.length<1000000):Zk 116 #[Zp bb,Zi n,.bool b] w λe w'=>Zr e (Zi (nX K.b n))/\aI U w' kb mb sb pb qb bb vT {K with b:=jR K.b n b}/\Zn U w w':=
 aD.call h 4 rfl (rP.bj bb (jR K.b n b)) (λU2 a=>by
  obtain⟨vp,vw,a⟩:=a
  exact YC a hl n b)
end
end Go.Proofs.YtphkconoooeidaaGreatDoor

import Derived.Test.YtphkconoooeidaaGreatDoorCp6
import Derived.Test.YtphkconoooeidaaGreatDoorCp14
import Derived.Test.YtphkconoooeidaaGreatDoorCp15
set_option maxRecDepth 100000
set_option maxHeartbeats 8000000
set_option linter.unusedVariables false
set_option linter.unusedSimpArgs false
open Go Go.Vx Go.Proofs.Tryz Go.ChangeShapes Go.WideShapes Go.ChangeAt Go.RowKit
namespace Go.Vx
theorem ac5 {s:Bs} {n t:Int} (h:t∈jS s n):∃x∈s.ws,x.dh=t/\x.at'=n:=by
 obtain⟨x,hx,he⟩:=List.mem_map.1 h;obtain⟨h1,h2⟩:=List.mem_filter.1 hx;exact⟨x,h1,he,of_decide_eq_true h2⟩
theorem ac6 (s:Bs) (k:Int):(jS s k).length<=s.ws.length:=by
 unfold jS;rw[List.length_map];exact List.length_filter_le _ _
end Go.Vx
namespace Go.Proofs.YtphkconoooeidaaGreatDoor
section
variable {U V S:Nat->Prop} {w w2 w3 w4:World} {xb mp mw:Nat} {DP DW Bn Fs:DataW Value} {GP GW Fk:Int->Nat} {Q:Int->Value} {s:Bs}
theorem sU.nil:sU ⟨[],[]⟩:=⟨List.nodup_nil,List.nodup_nil,λx hx=>(by cases hx),λp hp=>(by cases hp),λx hx=>(by cases hx)⟩
theorem sU.opened (h:sU s) {n:Int} (hn:aj n) (hi:pF s.ps n=none) (b:Bool):sU ⟨s.ps++[⟨n,b,0⟩],s.ws⟩:=by
 have eH:n∉s.ps.map (·.num):=λh9=>by
  obtain⟨i,h8⟩:=Ga.2 h9;rw[hi] at h8;cases h8
 refine⟨?_,h.nt,λx hx=>?_,λp hp=>?_,h.iw⟩
 ·show((s.ps++[(⟨n,b,0⟩:Pc)]).map (·.num)).Nodup;rw[List.map_append,List.nodup_append];refine⟨h.np,by simp,λa ha c hc=>?_⟩;simp only[List.map_cons,List.map_nil,List.mem_singleton] at hc;rw[hc];exact λe=>eH (e▸ha)
 ·obtain⟨p,hp,h1⟩:=h.at' x hx;exact⟨p,List.mem_append_left _ hp,h1⟩
 ·rcases List.mem_append.1 hp with hp|hp
  ·exact h.ip p hp
  ·rw[List.mem_singleton] at hp;rw[hp];exact hn
end
section
def Cl (t:Kt):Prop:=t.rg 0=0/\(∀j,0<=t.rg j/\t.rg j<4294967296)/\(0<=t.pc/\t.pc<4294967296)/\(t.st=0\/t.st=1)/\t.nK= -1/\t.mT= -1/\t.gr=false
structure aE (K:Kn):Prop where
 p:fk (K.n:Int) K.os K.rs
 c:Wf K.bs K.es
 x:Wx K.bs K.es
 cb:∀b∈K.bs,b.1∈K.os.map (·.2)
 rt:∀e∈K.es,0<=e.cap.rights/\e.cap.rights<=7/\0<=e.cap.root
 s:ku K.ss K.ck
 sn:∀e∈K.ss,e.num∈K.T.map (·.num)
 kl:K.ck<=K.ss.length
 b:sU K.b
 bp:∀p∈K.b.ps,p.num∈K.os.map (·.2)
 bw:K.b.ws=[]
 th:(K.T.map (·.num)).Pairwise (·<·)
 tn:∀n,n∈K.T.map (·.num)↔(6,n)∈K.os
 tr:∀t∈K.T,Cl t
 tk:Ck K.ts K.t K.lf
 ll:K.L.length=8
 lb:∀l∈K.L,l.dj= -1\/0<=l.dj
 li:K.ci=List.replicate 8 []
 lo:K.co=List.replicate 8 []
theorem zZ {x y:Kt}:∀{T:List Kt},y∈iy x T↔y=x\/y∈T
 |[]=>by simp[iy]
 |z::r=>by
  unfold iy
  split
  ·simp
  ·rw[List.mem_cons,zZ,List.mem_cons];constructor
   ·rintro(h|h|h)
    ·exact Or.inr (Or.inl h)
    ·exact Or.inl h
    ·exact Or.inr (Or.inr h)
   ·rintro(h|h|h)
    ·exact Or.inr (Or.inl h)
    ·exact Or.inl h
    ·exact Or.inr (Or.inr h)
theorem Kd {x:Kt} {T:List Kt} {n:Int}:n∈(iy x T).map (·.num)↔n=x.num\/n∈T.map (·.num):=by
 simp only[List.mem_map,zZ];constructor
 ·rintro⟨y,h|h,rfl⟩
  ·exact Or.inl (by rw[h])
  ·exact Or.inr ⟨y,h,rfl⟩
 ·rintro(h|⟨y,h,rfl⟩)
  ·exact⟨x,Or.inl rfl,h.symm⟩
  ·exact⟨y,Or.inr h,rfl⟩
theorem Qq {x:Kt}:∀{T:List Kt},(T.map (·.num)).Pairwise (·<·)->x.num∉T.map (·.num)->((iy x T).map (·.num)).Pairwise (·<·)
 |[],_,_=>by simp[iy]
 |z::r,h,hn=>by
  unfold iy
  split
  ·rename_i ah;rw[List.map_cons,List.pairwise_cons];refine⟨λa ha=>?_,h⟩;rw[List.map_cons,List.mem_cons] at ha;rw[List.map_cons,List.pairwise_cons] at h;rcases ha with rfl|ha
   ·exact ah
   ·exact Int.lt_trans ah (h.1 a ha)
  ·rename_i DV;rw[List.map_cons,List.pairwise_cons] at h|-;rw[List.map_cons,List.mem_cons] at hn;refine⟨λa ha=>?_,Qq h.2 (λh2=>hn (Or.inr h2))⟩;rcases Kd.1 ha with rfl|ha
   ·have:x.num≠z.num:=λe=>hn (Or.inl e)
    omega
   ·exact h.1 a ha
theorem ZF {l:List Int} (h:l.Pairwise (·<·)):l.Nodup:=h.imp (λh=>Zo)
variable {K:Kn}
theorem aE.nb (h:aE K):K.bs.length<=256:=by
 have h1:=vQ (K.bs.map (·.1)) (K.os.map (·.2)) h.x.nd (λx hx=>by
  obtain⟨b,hb,rfl⟩:=List.mem_map.1 hx
  exact h.cb b hb)
 rw[List.length_map,List.length_map] at h1;have:=h.p.lo;omega
theorem aE.np (h:aE K):K.b.ps.length<=256:=by
 have h1:=vQ (K.b.ps.map (·.num)) (K.os.map (·.2)) h.b.np (λx hx=>by
  obtain⟨b,hb,rfl⟩:=List.mem_map.1 hx
  exact h.bp b hb)
 rw[List.length_map,List.length_map] at h1;have:=h.p.lo;omega
theorem aE.nt (h:aE K):K.T.length<=256:=by
 have h1:=vQ (K.T.map (·.num)) (K.os.map (·.2)) (ZF h.th) (λx hx=>List.mem_map.2 ⟨_,(h.tn x).1 hx,rfl⟩);rw[List.length_map,List.length_map] at h1;have:=h.p.lo;omega
theorem aE.ns (h:aE K):K.ss.length<=256:=by
 have h1:=vQ (K.ss.map (·.num)) (K.T.map (·.num)) h.s.nd (λx hx=>by
  obtain⟨b,hb,rfl⟩:=List.mem_map.1 hx
  exact h.sn b hb)
 rw[List.length_map,List.length_map] at h1;have:=h.nt;omega
def FT (bs:Lp):List Sl:=bs.flatMap λb=>(List.range 64).map λ(j:Nat)=>(b.1,(j:Int))
theorem Xx (bs:Lp):(FT bs).length=64*bs.length:=by
 unfold FT
 induction bs with
 |nil=>rfl
 |cons a l ih=>rw[List.flatMap_cons,List.length_append,ih,List.length_map,List.length_range,List.length_cons];omega
theorem Ws {n:Int} (h:fB n=true):1<=n/\n<=64:=by
 unfold fB at h;have:=of_decide_eq_true h;omega
theorem We {bs:Lp} {es:List En} (h:Wf bs es) (x:Wx bs es):es.length<=64*bs.length:=by
 have hn:(es.map (·.at')).Nodup:=by
  have h1:=Jb.1 h.so;refine h1.imp (fun {a b} ch he=>?_);subst he;unfold je at ch;simp at ch
 have h1:=vQ (es.map (·.at')) (FT bs) hn (λs hs=>by
  obtain⟨e,he,rfl⟩:=List.mem_map.1 hs;obtain⟨b,hb,h2,h3,h4⟩:=x.ix e he;have h5:=Ws (h.bn b hb).1;unfold FT;refine List.mem_flatMap.2 ⟨b,hb,List.mem_map.2 ⟨e.at'.2.toNat,List.mem_range.2 Zo,?_⟩⟩;rw[h2];show(e.at'.1,((e.at'.2.toNat:Nat):Int))=e.at'
  rw[Int.toNat_of_nonneg h3])
 rw[List.length_map,Xx] at h1;exact h1
theorem aE.ne (h:aE K):K.es.length<=16384:=by
 have:=We h.c h.x;have:=h.nb;omega
end
section
variable {K:Kn}
theorem aE.PB (h:aE K) {os rs:Lp} (hp:fk (K.n:Int) os rs) (hs:∀o∈K.os,o∈os) (h6:∀n,(6,n)∈os->(6,n)∈K.os):aE {K with os:=os,rs:=rs}:=by
 have hm:∀n,n∈K.os.map (·.2)->n∈os.map (·.2):=λn hn=>by
  obtain⟨o,ho,rfl⟩:=List.mem_map.1 hn;exact List.mem_map.2 ⟨o,hs o ho,rfl⟩
 exact⟨hp,h.c,h.x,λb hb=>hm _ (h.cb b hb),h.rt,h.s,h.sn,h.kl,h.b,λp hq=>hm _ (h.bp p hq),h.bw,h.th,λn=>⟨λhn=>hs _ ((h.tn n).1 hn),λhn=>(h.tn n).2 (h6 n hn)⟩,h.tr,h.tk,h.ll,h.lb,h.li,h.lo⟩
theorem aE.f' (h:aE K) (f:Nat->UInt8):aE {K with f:=f}:=⟨h.p,h.c,h.x,h.cb,h.rt,h.s,h.sn,h.kl,h.b,h.bp,h.bw,h.th,h.tn,h.tr,h.tk,h.ll,h.lb,h.li,h.lo⟩
theorem P6 {bs:Lp} {num n:Int} {b:Int×Int} (h:b∈fH bs num n):b∈bs\/b=(num,n):=by
 unfold fH at h
 split at h
 ·rcases List.mem_append.1 h with h|h
  ·exact Or.inl h
  ·exact Or.inr (List.mem_singleton.1 h)
 ·exact Or.inl h
theorem aE.made (h:aE K) (num n:Int) (hi:aj num) (ho:num∈K.os.map (·.2)):aE {K with bs:=fH K.bs num n}:=
 ⟨h.p,h.c.make num n,h.x.make num n hi,λb hb=>by
  rcases P6 hb with hb|hb
  ·exact h.cb b hb
  ·rw[hb];exact ho,h.rt,h.s,h.sn,h.kl,h.b,h.bp,h.bw,h.th,h.tn,h.tr,h.tk,h.ll,h.lb,h.li,h.lo⟩
theorem aaz {s:Bs} (h:sU s) {n:Int} (hn:aj n) (b:Bool):sU (jR s n b):=by
 unfold jR
 split
 ·rename_i h0;unfold nX at h0
  split at h0
  ·cases h0
  ·split at h0
   ·cases h0
   ·rename_i h2;refine h.opened hn ?_ b
    cases hq:pF s.ps n with
    |none=>rfl
    |some i=>rw[hq] at h2;exact absurd rfl h2
 ·exact h
theorem aaA {s:Bs} {n:Int} {b:Bool} {p:Pc} (h:p∈(jR s n b).ps):p∈s.ps\/p.num=n:=by
 unfold jR at h
 split at h
 ·rcases List.mem_append.1 h with h|h
  ·exact Or.inl h
  ·rw[List.mem_singleton] at h;rw[h];exact Or.inr rfl
 ·exact Or.inl h
theorem aay (s:Bs) (n:Int) (b:Bool):(jR s n b).ws=s.ws:=by unfold jR;split<;>rfl
theorem aE.opened (h:aE K) (n:Int) (b:Bool) (hi:aj n) (ho:n∈K.os.map (·.2)):aE {K with b:=jR K.b n b}:=
 ⟨h.p,h.c,h.x,h.cb,h.rt,h.s,h.sn,h.kl,aaz h.b hi b,λp hp=>by
  rcases aaA hp with hp|hp
  ·exact h.bp p hp
  ·rw[hp];exact ho,by show(jR _ _ _).ws=_;rw[aay];exact h.bw,h.th,h.tn,h.tr,h.tk,h.ll,h.lb,h.li,h.lo⟩
theorem abf (n:Int):Cl (ni n):=by
 refine⟨rfl,λj=>⟨Int.le_refl _,by show(0:Int)<_;decide⟩,⟨Int.le_refl _,by show(0:Int)<_;decide⟩,Or.inl rfl,rfl,rfl,rfl⟩
theorem aE.WJ (h:aE K) {n:Int} (hi:aj n) {os rs:Lp} (hp:fk (K.n:Int) os rs) (GS:os=K.os++[(6,n)]):aE {K with os:=os,rs:=rs,bs:=fH K.bs n 4,T:=iy (ni n) K.T}:=by
 have gZ:=hp.on;rw[GS,List.map_append,List.nodup_append] at gZ;have eH:n∉K.os.map (·.2):=λhn=>gZ.2.2 n hn n (by simp) rfl
 have G1:n∉K.T.map (·.num):=λhn=>eH (List.mem_map.2 ⟨_,(h.tn n).1 hn,rfl⟩)
 have hm:∀m,m∈K.os.map (·.2)->m∈os.map (·.2):=λm hm=>by rw[GS,List.map_append];exact List.mem_append_left _ hm
 have lO:n∈os.map (·.2):=by rw[GS,List.map_append];exact List.mem_append_right _ (by simp)
 refine⟨hp,h.c.make n 4,h.x.make n 4 hi,λb hb=>?_,h.rt,h.s,λe he=>Kd.2 (Or.inr (h.sn e he)),h.kl,h.b,λp hq=>hm _ (h.bp p hq),h.bw,Qq h.th G1,λm=>?_,λt ht=>?_,h.tk,h.ll,h.lb,h.li,h.lo⟩
 ·rcases P6 hb with hb|hb
  ·exact hm _ (h.cb b hb)
  ·rw[hb];exact lO
 ·show m∈(iy _ _).map _↔(6,m)∈os;rw[Kd,GS,List.mem_append,h.tn m];show m=n\/_↔_\/(6,m)∈[(6,n)];simp only[List.mem_singleton,Prod.mk.injEq,true_and];exact Or.comm
 ·rcases zZ.1 ht with rfl|ht
  ·exact abf n
  ·exact h.tr t ht
theorem add_zero {P:Int} {os rs:Lp} {o:Int×Int} (h:aV P os rs o=0):1<=o.1/\o.1<=8/\0<=o.2:=by
 unfold aV at h
 split at h
 ·cases h
 ·split at h
  ·cases h
  ·omega
theorem aE.obj (h:aE K) (x:Int×Int×Int) (hi:aj x.2.1):aE (cj K x).1:=by
 unfold cj
 split
 ·exact h
 ·split
  ·rename_i he;have hp:=h.p.add (x.1,x.2.1);by_cases h1:x.1=1
   ·show aE (if x.1=1 then _ else _);rw[if_pos h1];have ho:fX (K.n:Int) K.os K.rs (x.1,x.2.1)=K.os:=if_neg (λe=>e.2 h1);refine h.PB hp (λo hm=>by rw[ho];exact hm) (λn hn=>by rw[ho] at hn;exact hn)
   ·show aE (if x.1=1 then _ else _);rw[if_neg h1];have ho:fX (K.n:Int) K.os K.rs (x.1,x.2.1)=K.os++[(x.1,x.2.1)]:=if_pos ⟨he,h1⟩;have gQ:x.2.1∈(fX (K.n:Int) K.os K.rs (x.1,x.2.1)).map (·.2):=by rw[ho,List.map_append];exact List.mem_append_right _ (by simp)
    unfold ly;by_cases h6:x.1=6
    ·have h5:¬x.1=5:=Zo;simp only[h5,h6,if_true,if_false];rw[h6] at ho hp;exact(h.WJ hi hp ho).f' _
    ·have hb:=h.PB hp (λo hm=>by rw[ho];exact List.mem_append_left _ hm) (λn hn=>by
      rw[ho] at hn;rcases List.mem_append.1 hn with hn|hn
      ·exact hn
      ·simp only[List.mem_singleton,Prod.mk.injEq] at hn
       exact absurd hn.1.symm h6)
     have cw:=hb.f' (j5 K.f K.n x.2.1).1;simp only[h6,if_false]
     split
     ·exact cw.made x.2.1 x.2.2 hi gQ
     ·split
      ·exact cw.opened x.2.1 _ hi gQ
      ·exact cw
  ·exact h
theorem aE.Eu (h:aE K) (x:Int×List UInt8):aE (cV K x).1:=by
 unfold cV
 split
 ·exact h.f' _
 ·exact h
theorem CJ {c:Cp} (h:kQ c=true):0<=c.rights/\c.rights<=7/\c.root=0/\c.va=0:=by
 unfold kQ at h;simp only[Bool.and_eq_true,decide_eq_true_eq] at h;exact h.1.1
theorem aE.cap (h:aE K) (x:En) (hg:kE x.cap) (hn:aj x.cap.num):aE (bY K x).1:=by
 unfold bY
 split
 ·rename_i h0
  have hw:kQ x.cap=true:=by
   unfold jK at h0
   split at h0
   ·cases h0
   ·split at h0
    ·cases h0
    ·rename_i h2;simpa using h2
  have hw:=CJ hw;refine⟨h.p,h.c.put _ _ _ hg,h.x.put _ _ _ hn,h.cb,λe he=>?_,h.s,h.sn,h.kl,h.b,h.bp,h.bw,h.th,h.tn,h.tr,h.tk,h.ll,h.lb,h.li,h.lo⟩;simp only at he;unfold db at he
  split at he
  ·rcases rj.1 he with rfl|he
   ·exact⟨hw.1,hw.2.1,by show 0<=x.cap.root;omega⟩
   ·exact h.rt e he
  ·exact h.rt e he
 ·exact h
theorem Dj {α:Type} {p:α->Bool} {l:List α} {i:Nat} (h:dq p l 0=some i):∃hi:i<l.length,p l[i]=true:=by
 obtain⟨h1,h2⟩:=uP h;exact⟨by simpa using h1,by simpa using h2⟩
theorem SZ (bs:Lp) (es:List En) (s:Sl):cy bs es s≠ .error 0:=by
 unfold cy
 split
 ·intro h;injection h with h;cases h
 ·split
  ·intro h;injection h with h;cases h
  ·split
   ·intro h;injection h with h;cases h
   ·intro h;cases h
theorem aeE {bs:Lp} {es:List En} {s:Sl} {i:Nat} (h:cy bs es s=.ok i):∃hi:i<es.length,es[i].at'=s:=by
 unfold cy at h
 split at h
 ·cases h
 ·split at h
  ·cases h
  ·split at h
   ·cases h
   ·rename_i k hk;injection h with h
    subst h;unfold kq at hk;obtain⟨h1,h2⟩:=Dj hk;exact⟨h1,of_decide_eq_true h2⟩
theorem B9 {bs:Lp} {es:List En} {s:Sl} (h:(aH bs es s).2=0):∃i,cy bs es s=.ok i/\∃hi:i<es.length,es[i].at'=s/\(aH bs es s).1=es[i].cap:=by
 unfold aH at h|-
 cases hf:cy bs es s with
 |ok i=>
  obtain⟨hi,h2⟩:=aeE hf
  exact⟨i,rfl,hi,h2,by simp[List.getD_eq_getElem?_getD,hi]⟩
 |error e=>
  rw[hf] at h;simp only at h;subst h;exact absurd hf (SZ _ _ _)
theorem aE.Gn (h:aE K) {s:Sl} {c:Cp} (hc:(aH K.bs K.es s).2=0/\c=(aH K.bs K.es s).1) (root:Int) (hr:0<=root) (va:Nat) (rights:Int):aE (gM K s c root va rights).1:=by
 obtain⟨i,hf,hi,h2,h3⟩:=B9 hc.1;rw[<-hc.2] at h3;have nY:=h.rt _ (List.getElem_mem hi);have pU:=h.c.gu _ (List.getElem_mem hi);unfold gM
 split
 ·refine aE.f' (K:={K with es:=eY K.bs K.es s {c with root:=root+1,va:=(td c va:Int)}}) ⟨h.p,h.c.set _ _ (by rw[h3];exact pU),h.x.set _ _,h.cb,λe he=>?_,h.s,h.sn,h.kl,h.b,h.bp,h.bw,h.th,h.tn,h.tr,h.tk,h.ll,h.lb,h.li,h.lo⟩ _;simp only at he;unfold eY at he;rw[hf] at he;simp only at he
  split at he
  ·rw[show K.es.getD i .df=K.es[i] from by simp[List.getD_eq_getElem?_getD,hi]] at he;obtain⟨e2,gm,_,_,h5|h5⟩:=vS hi he
   ·rw[h5];show 0<=c.rights/\c.rights<=7/\0<=root+1;rw[h3];exact⟨nY.1,nY.2.1,Zo⟩
   ·rw[h5];exact h.rt e2 gm
  ·exact h.rt e he
 ·exact h.f' _
theorem TQ {os rs:Lp} {P:Int} (hp:fk P os rs) {k n:Int} (h:dk os rs (k,n)=true):0<=n:=by
 unfold dk at h
 split at h
 ·have:=of_decide_eq_true h;exact this.1
 ·have h1:=of_decide_eq_true h;unfold fE at h1;rcases List.mem_append.1 h1 with h1|h1
  ·exact(hp.ok _ h1).2.2.1
  ·obtain⟨r,hr,he⟩:=List.mem_map.1 h1;have:=(hp.rk r hr).1;simp only[Prod.mk.injEq] at he;rw[<-he.2];unfold fK at this;omega
theorem aE.map (h:aE K) (x:Mp):aE (bK K x).1:=by
 unfold bK
 split
 ·rename_i h0
  split
  ·exact h
  ·split
   ·exact h
   ·rename_i h2;exact h.Gn ⟨h0,rfl⟩ _ (TQ h.p (by simpa using h2)) _ _
 ·exact h
theorem aE.irq (h:aE K) (x:Int×Int×Int):aE (cF K x).1:=by
 unfold cF
 split
 ·exact h
 ·split
  ·exact h
  ·rename_i h2
   split
   ·exact h
   ·have hb:=TQ h.p (k:=8) (n:=x.2.1) (by simpa using h2);refine⟨h.p,h.c,h.x,h.cb,h.rt,h.s,h.sn,h.kl,h.b,h.bp,h.bw,h.th,h.tn,h.tr,h.tk,?_,λl hl=>?_,h.li,h.lo⟩
    ·show(K.L.set _ _).length=8;rw[List.length_set];exact h.ll
    ·rcases List.mem_or_eq_of_mem_set hl with hl|hl
     ·exact h.lb l hl
     ·rw[hl];exact Or.inr hb
theorem ag6 {es:List Et} {n d p:Int} {e:Et} (h:e∈bU es n d p):e∈es\/e.num=n:=by
 unfold bU at h
 split at h
 ·rcases List.mem_append.1 h with h|h
  ·exact Or.inl h
  ·rw[List.mem_singleton] at h;rw[h];exact Or.inr rfl
 ·exact Or.inl h
theorem ag7 {es:List Et} {n d p:Int} (h:fj es n d p=0):(bU es n d p).length=es.length+1:=by
 unfold bU;rw[if_pos h,List.length_append,List.length_singleton]
theorem Qg {es:List Et} {ck:Nat} {n:Int}:(kZ es ck n).map (·.num)=es.map (·.num):=by
 unfold kZ
 split
 ·rfl
 ·rename_i i hi;obtain⟨h1,h2⟩:=Dj (show dq _ _ 0=some i from hi);rw[List.map_set,show es.getD i .df=es[i] from by simp[List.getD_eq_getElem?_getD,h1]];show(es.map (·.num)).set i es[i].num=_;apply List.ext_getElem (by simp);intro k h3 h4;rw[List.getElem_set]
  split
  ·rename_i he;subst he;simp
  ·rfl
theorem aci {es:List Et} {ck:Nat} {n:Int}:(kZ es ck n).length=es.length:=by
 have:=congrArg List.length (Qg (es:=es) (ck:=ck) (n:=n));simpa using this
theorem Oy {T:List Kt} {i:Nat} (hi:i<T.length) {y:Kt} (hy:y.num=T[i].num):(T.set i y).map (·.num)=T.map (·.num):=by
 rw[List.map_set];apply List.ext_getElem (by simp);intro k h3 h4;rw[List.getElem_set]
 split
 ·rename_i he;subst he;simp[hy]
 ·rfl
theorem xG {T:List Kt} {n:Int} {i:Nat} (h:kR T n=some i):∃hi:i<T.length,T[i].num=n:=by
 obtain⟨h1,h2⟩:=Dj (show dq _ _ 0=some i from h);exact⟨h1,of_decide_eq_true h2⟩
def xe (x:Tc):Prop:=(∀j,0<=x.rg j/\x.rg j<4294967296)/\(0<=x.pc/\x.pc<4294967296)
theorem aE.N1 (h:aE K) {i:Nat} (hi:i<K.T.length) {y:Kt} (hy:y.num=K.T[i].num) (hk:Cl y):aE {K with T:=K.T.set i y}:=by
 have e:=Oy hi hy;refine⟨h.p,h.c,h.x,h.cb,h.rt,h.s,λa ha=>by show a.num∈(K.T.set i y).map _;rw[e];exact h.sn a ha,h.kl,h.b,h.bp,h.bw,by show((K.T.set i y).map _).Pairwise _;rw[e];exact h.th,λn=>by show n∈(K.T.set i y).map _↔_;rw[e];exact h.tn n,λt ht=>?_,h.tk,h.ll,h.lb,h.li,h.lo⟩;rcases List.mem_or_eq_of_mem_set ht with ht|ht
 ·exact h.tr t ht
 ·rw[ht];exact hk
theorem aE.xK (h:aE K) {n d p:Int} (hn:n∈K.T.map (·.num)):aE {K with ss:=bU K.ss n d p}:=by
 refine⟨h.p,h.c,h.x,h.cb,h.rt,h.s.add n d p,λe he=>?_,?_,h.b,h.bp,h.bw,h.th,h.tn,h.tr,h.tk,h.ll,h.lb,h.li,h.lo⟩
 ·rcases ag6 he with he|he
  ·exact h.sn e he
  ·rw[he];exact hn
 ·show K.ck<=(bU K.ss n d p).length;have:=h.kl;unfold bU
  split
  ·rw[List.length_append];omega
  ·exact this
theorem F4 {es:List Et} {n:Int} (h:fq es n=0):(dB es n).isSome=true:=by
 unfold fq at h
 split at h
 ·cases h
 ·rename_i hh;rw[hh];rfl
theorem YK {x:Tc} (h:xe x) {t:Kt} (ht:Cl t):Cl {t with rg:=pJ x.rg,pc:=x.pc}:=by
 refine⟨rfl,λj=>?_,h.2,ht.2.2.2⟩;show 0<=(if j=0 then (0:Int) else x.rg j)/\(if j=0 then (0:Int) else x.rg j)<_
 split
 ·decide
 ·exact h.1 j
theorem aE.dh (h:aE K) (x:Tc) (hx:xe x):aE (bP K x).1:=by
 unfold bP
 split
 ·exact h
 ·rename_i i hi;obtain⟨hl,hn⟩:=xG hi;have hg:K.T.getD i .df=K.T[i]:=by simp[List.getD_eq_getElem?_getD,hl]
  have hk:=YK hx (h.tr _ (List.getElem_mem hl));have G1:x.num∈K.T.map (·.num):=List.mem_map.2 ⟨_,List.getElem_mem hl,hn⟩
  split
  ·rename_i he;simp only[hg]
   split
   ·have h1:=(h.xK (n:=x.num) (d:=x.bT) (p:=x.prio) G1).N1 hl (y:={{K.T[i] with rg:=pJ x.rg,pc:=x.pc} with st:=1}) rfl ⟨hk.1,hk.2.1,hk.2.2.1,Or.inr rfl,hk.2.2.2.2⟩
    split
    ·rename_i hr;have h2:=h1.s.last x.num;rw[F4 hr,if_pos rfl] at h2;refine⟨h1.p,h1.c,h1.x,h1.cb,h1.rt,h2,λe gm=>?_,?_,h1.b,h1.bp,h1.bw,h1.th,h1.tn,h1.tr,h1.tk,h1.ll,h1.lb,h1.li,h1.lo⟩
     ·have h3:e.num∈(kZ (bU K.ss x.num x.bT x.prio) K.ck x.num).map (·.num):=List.mem_map.2 ⟨e,gm,rfl⟩;rw[Qg] at h3;obtain⟨e2,h4,h5⟩:=List.mem_map.1 h3;rw[<-h5];exact h1.sn e2 h4
     ·show K.ck+1<=(kZ _ _ _).length;rw[aci,ag7 he];have:=h.kl;omega
    ·exact h1
   ·exact(h.xK (n:=x.num) (d:=x.bT) (p:=x.prio) G1).N1 hl (y:={K.T[i] with rg:=pJ x.rg,pc:=x.pc}) rfl hk
  ·exact h
theorem aE.rest (h:aE K):∀(l:List Int),(∀n∈l,n∈K.T.map (·.num))->∀ss,aE {K with ss:=ss}->aE {K with ss:=kU ss l}
 |[],_,ss,hs=>hs
 |n::r,hl,ss,hs=>aE.rest h r (λm hm=>hl m (List.mem_cons_of_mem _ hm)) _ (hs.xK (n:=n) (d:=0) (p:=0) (hl n List.mem_cons_self))
theorem aE.fin (h:aE K):aE (yP K):=h.rest _ (λ_ h=>h) _ h
theorem aE.run {α:Type} {st:Kn->α->Kn×Int} {R:α->Prop} (hs:∀K x,aE K->R x->aE (st K x).1):∀(l:List α) (K:Kn) (i:Nat),aE K->(∀x∈l,R x)->aE (bz st K l i).1
 |[],K,i,h,_=>h
 |x::r,K,i,h,hR=>by
  unfold bz
  split
  ·exact aE.run hs r _ _ (hs K x h (hR x List.mem_cons_self)) (λy hy=>hR y (List.mem_cons_of_mem _ hy))
  ·exact hs K x h (hR x List.mem_cons_self)
end
theorem Qp {x:Kt}:∀{A B:List Kt},(∀a∈A,¬x.num<a.num)->(∀b∈B,x.num<b.num)->iy x (A++B)=A++x::B
 |[],[],_,_=>rfl
 |[],b::B,_,hB=>by
  show iy x (b::B)=x::b::B;unfold iy
  rw[if_pos (hB b List.mem_cons_self)]
 |a::A,B,hA,hB=>by
  show iy x (a::(A++B))=a::(A++x::B);unfold iy;rw[if_neg (hA a List.mem_cons_self),Qp (λy hy=>hA y (List.mem_cons_of_mem _ hy)) hB]
def nN (x:Kt) (T:List Kt) (i:Nat) (Y:List Kt):Prop:=i<=T.length/\Y=T.take i++x::T.drop i/\∀b∈T.drop i,x.num<b.num
theorem nN.start (x:Kt) (T:List Kt):nN x T T.length (T++[x]):=⟨Nat.le_refl _,by simp,λb hb=>by simp at hb⟩
theorem nN.len {x:Kt} {T Y:List Kt} {i:Nat} (h:nN x T i Y):Y.length=T.length+1:=by
 rw[h.2.1,List.length_append,List.length_cons,List.length_take,List.length_drop];have:=h.1;omega
theorem nN.at {x:Kt} {T Y:List Kt} {i:Nat} (h:nN x T i Y):Y[i]?=some x:=by
 rw[h.2.1,List.getElem?_append_right (by rw[List.length_take];omega),List.length_take];have h1:=h.1;rw[show i - min i T.length=0 from Zo];rfl
theorem nN.ahead {x:Kt} {T Y:List Kt} {i:Nat} (h:nN x T (i+1) Y):Y[i]?=T[i]?:=by
 rw[h.2.1,List.getElem?_append_left (by rw[List.length_take];have:=h.1;omega),List.getElem?_take_of_lt Zo]
theorem nN.down {x:Kt} {T Y:List Kt} {i:Nat} (h:nN x T (i+1) Y) {y:Kt} (hy:T[i]?=some y) (ah:x.num<y.num):nN x T i ((Y.set (i+1) y).set i x):=by
 obtain⟨h1,h2,h3⟩:=h;have hi:i<T.length:=Zo;have yj:T[i]=y:=by rw[List.getElem?_eq_getElem hi] at hy;injection hy
 have hd:T.drop i=y::T.drop (i+1):=by rw[List.drop_eq_getElem_cons hi,yj]
 have ht:T.take (i+1)=T.take i++[y]:=by rw[List.take_succ_eq_append_getElem hi,yj]
 have hl:(T.take i).length=i:=by rw[List.length_take];omega
 refine⟨Zo,?_,λb hb=>?_⟩
 ·rw[h2,ht,hd,List.append_assoc];rw[List.set_append_right _ _ (by rw[hl];omega),hl,show i+1 - i=1 from Zo,List.set_append_right _ _ (by rw[hl];omega),hl,Nat.sub_self];rfl
 ·rw[hd,List.mem_cons] at hb;rcases hb with rfl|hb
  ·exact ah
  ·exact h3 b hb
theorem nN.af0 {x:Kt} {T Y:List Kt} {i j:Nat} (h:nN x T i Y) (hi:i=j+1) {y:Kt} (hy:T[j]?=some y) (ah:x.num<y.num):nN x T j ((Y.set i y).set j x):=by
 subst hi;exact h.down hy ah
theorem nN.done {x:Kt} {T Y:List Kt} {i:Nat} (h:nN x T i Y) (hs:(T.map (·.num)).Pairwise (·<·)) (cG:i=0\/∃j y,i=j+1/\T[j]?=some y/\¬x.num<y.num):Y=iy x T:=by
 obtain⟨h1,h2,h3⟩:=h;rw[h2];have e:iy x T=iy x (T.take i++T.drop i):=by rw[List.take_append_drop]
 rw[e];refine(Qp (λa ha=>?_) h3).symm;rcases cG with rfl|⟨j,y,rfl,hy,hn⟩
 ·simp at ha
 ·have hj:j<T.length:=Zo;have QM:T[j]=y:=by rw[List.getElem?_eq_getElem hj] at hy;injection hy
  obtain⟨k,hk,rfl⟩:=List.getElem_of_mem ha;rw[List.length_take] at hk;rw[List.getElem_take];by_cases he:k=j
  ·subst he;rw[QM];exact hn
  ·have h4:=List.pairwise_iff_getElem.1 hs k j (by rw[List.length_map];omega) (by rw[List.length_map];omega) Zo;rw[List.getElem_map,List.getElem_map,QM] at h4;omega
end Go.Proofs.YtphkconoooeidaaGreatDoor

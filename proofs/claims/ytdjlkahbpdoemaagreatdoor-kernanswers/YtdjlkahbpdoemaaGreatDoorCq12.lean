import Derived.Test.YtdjlkahbpdoemaaGreatDoorCq10
set_option maxRecDepth 100000
set_option maxHeartbeats 8000000
set_option linter.unusedVariables false
set_option linter.unusedSimpArgs false
open Go Go.Vx Go.Proofs.Tryz Go.ChangeShapes Go.WideShapes Go.ChangeAt Go.RowKit
variable {α β:Type}{DP DW:DataW Value}{e:Et}{P d hw n t:Int}{GP GW:Int->Nat}{Q:Int->Value}{b o:Int×Int}{es:List Et}{l:List Int}{ws yo:List Wt}{xs:List α}{bs os rs:Lp}{ck i mp mw xb:Nat}{w:Z0}{U:Z1}
namespace Go.Vx
theorem Cv(l:List α)(i):(oS l i).Sublist l:=by
 unfold oS;rw[<-List.eraseIdx_eq_take_drop_succ];exact List.eraseIdx_sublist l i
theorem map_inj{f:α->β}(hn:(xs.map f).Nodup){x y:α}(c:x∈xs)(hy:y∈xs)(h:f x=f y):x=y:=by
 obtain⟨i,hi,rfl⟩:=List.getElem_of_mem c;obtain⟨j,b,rfl⟩:=List.getElem_of_mem hy;have h1:=List.pairwise_iff_getElem.1 hn;have d:i=j:=by
  refine Classical.byContradiction (λe=>?_);rcases Nat.lt_or_gt_of_ne e with a|a
  ·have:=h1 i j (by rw[List.length_map];exact hi) (by rw[List.length_map];exact b) a;rw[List.getElem_map,List.getElem_map] at this;exact this h
  have:=h1 j i (by rw[List.length_map];exact b) (by rw[List.length_map];exact hi) a;rw[List.getElem_map,List.getElem_map] at this;exact this h.symm
 subst d;rfl
theorem IJ{s:Bs}(h:t∈eW s n):∃x∈s.ws,x.bL=t/\x.at'=n:=by
 have⟨x,a,he⟩:=List.mem_map.1 h;have⟨h1,b⟩:=List.mem_filter.1 a;exact⟨x,h1,he,of_decide_eq_true b⟩
theorem XZ(s n t h m k):eW ⟨s.ps,s.ws++[⟨n,t,h,m⟩]⟩ k=eW s k++(if n=k then [t] else []):=by
 unfold eW;rw[List.filter_append,List.map_append];congr 1;by_cases e:n=k
 ·simp[e]
 simp[e]
theorem XY{s:Bs}(hn:(s.ws.map (·.bL)).Nodup){j:Nat}(a:j<s.ws.length)(k):eW ⟨s.ps,oS s.ws j⟩ k=(eW s k).filter (λt=>decide (t≠s.ws[j].bL)):=by
 unfold eW;dsimp only;rw[ab7 (·.bL) s.ws hn a,List.filter_filter,List.filter_map,List.filter_filter];congr 1;apply List.filter_congr;intro x _;simp only[Function.comp];exact Bool.and_comm _ _
theorem ak4{s:Bs}(hn:(s.ws.map (·.bL)).Nodup){j:Nat}(a:j<s.ws.length){k:Int}(hk:s.ws[j].at'≠k):eW ⟨s.ps,oS s.ws j⟩ k=eW s k:=by
 rw[XY hn a,List.filter_eq_self];intro t ht;have⟨x,b,he,ha⟩:=IJ ht;refine decide_eq_true (λe=>hk ?_);have:=map_inj hn b (List.getElem_mem a) (he.trans e);rwa[<-this]
theorem ak2{s:Bs}(hn:(s.ws.map (·.bL)).Nodup)(k):(eW s k).Nodup:=by
 unfold eW;exact List.Nodup.sublist (List.Sublist.map _ List.filter_sublist) hn
theorem ak3(s k):(eW s k).length<=s.ws.length:=by
 unfold eW;rw[List.length_map];exact List.length_filter_le _ _
theorem XX{s:Bs}(h:aF s.ws n=none):eW s n=[]:=by
 unfold eW;rw[List.map_eq_nil_iff,List.filter_eq_nil_iff];intro x a;have:=jQ h x a;simpa using this
theorem YC{p:Wt->Bool}:∀(l:List Wt) (k i:Nat),dL p l k=some i->∃(hi:i - k<l.length) (r:List Wt),l.filter p=l[i - k]::r
 |[],k,i,h=>by cases h
 |a::l,k,i,h=>by
  unfold dL at h;by_cases hp:p a=true
  ·rw[if_pos hp] at h;injection h with h
   subst h;refine⟨by simp,l.filter p,?_⟩;rw[List.filter_cons,if_pos hp];simp
  rw[if_neg hp] at h;have h1:=Re h;obtain⟨c,r,b⟩:=YC l (k+1) i h;have e:i - k=(i - (k+1))+1:=Z;refine⟨by simp only[List.length_cons];omega,r,?_⟩;rw[List.filter_cons,if_neg hp,b];have:(a::l)[i - k]'(by simp only[List.length_cons];omega)=l[i - (k+1)]:=by simp only[e,List.getElem_cons_succ]
  rw[this]
theorem XW{s:Bs}(h:aF s.ws n=some i):∃(hi:i<s.ws.length) (r:List Int),eW s n=s.ws[i].bL::r/\s.ws[i].at'=n:=by
 have⟨hi,r,hr⟩:=YC s.ws 0 i h;have⟨_,hp⟩:=sZ h;simp only[Nat.sub_zero i] at hi hr hp;refine⟨hi,r.map (·.bL),?_,of_decide_eq_true hp⟩;unfold eW;rw[hr];rfl
theorem Vr(hn:(ws.map (·.bL)).Nodup)(hi:i<ws.length):tF ws ws[i].bL=some i:=by
 cases h:tF ws ws[i].bL with
 |none=>exact absurd rfl (Vq h _ (List.getElem_mem hi))
 |some j=>
  have⟨a,hp⟩:=sZ h;simp only[Nat.sub_zero j] at a hp;have c:ws[j].bL=ws[i].bL:=of_decide_eq_true hp;have h1:=List.pairwise_iff_getElem.1 hn;congr 1;refine Classical.byContradiction (λd=>?_);rcases Nat.lt_or_gt_of_ne d with b|b
  ·have:=h1 j i (by rw[List.length_map];exact a) (by rw[List.length_map];exact hi) b;rw[List.getElem_map,List.getElem_map] at this;exact this c
  have:=h1 i j (by rw[List.length_map];exact hi) (by rw[List.length_map];exact a) b;rw[List.getElem_map,List.getElem_map] at this;exact this c.symm
end Go.Vx
namespace Go.Proofs.YtdjlkahbpdoemaaGreatDoor
variable {K:Kn}{y:Kt}{T:List Kt}
theorem lX.nil:lX ⟨[],[]⟩:=⟨List.nodup_nil,List.nodup_nil,λx a=>(by cases a),λp hp=>(by cases hp),λx a=>(by cases a)⟩
section
variable {s:Bs}
theorem lX.opened(h:lX s)(hn:af n)(hi:pF s.ps n=none)(b):lX ⟨s.ps++[⟨n,b,0⟩],s.ws⟩:=by
 have g:n∉s.ps.map (·.num):=λj=>by
  have⟨i,d⟩:=Dz.2 j;rw[hi] at d;cases d
 refine⟨?_,h.nt,λx k=>?_,λp hp=>?_,h.iw⟩
 ·show((s.ps++[(⟨n,b,0⟩:Pc)]).map (·.num)).Nodup;rw[List.map_append,List.nodup_append];refine⟨h.np,by simp,λa ha c f=>?_⟩;simp only[List.map_cons,List.map_nil,List.mem_singleton] at f;rw[f];exact λe=>g (e▸ha)
 ·have⟨p,hp,h1⟩:=h.at' x k;exact⟨p,List.mem_append_left _ hp,h1⟩
 rcases List.mem_append.1 hp with hp|hp
 ·exact h.ip p hp
 rw[List.mem_singleton] at hp;rwa[hp]
theorem lX.cut(h:lX s)(i):lX ⟨s.ps,oS s.ws i⟩:=
 ⟨h.np,List.Nodup.sublist (List.Sublist.map _ (Cv s.ws i)) h.nt,λx a=>h.at' x ((Cv s.ws i).mem a),h.ip,λx a=>h.iw x ((Cv s.ws i).mem a)⟩
theorem lX.waits(h:lX s)(m)(hi:pF s.ps n=some i)(ht:tF s.ws t=none)(it:af t)(f:(ue s i).ga=false->hw=2\/hw=3\/hw=4\/hw=7):lX ⟨s.ps,s.ws++[⟨n,t,hw,m⟩]⟩:=by
 have⟨d,hn⟩:=Qw hi;refine⟨h.np,?_,λx b=>?_,h.ip,λx b=>?_⟩
 ·show((s.ws++[(⟨n,t,hw,m⟩:Wt)]).map (·.bL)).Nodup;rw[List.map_append,List.nodup_append];refine⟨h.nt,by simp,λa ha c e=>?_⟩;simp only[List.map_cons,List.map_nil,List.mem_singleton] at e;rw[e];obtain⟨y,hy,rfl⟩:=List.mem_map.1 ha;exact Vq ht y hy
 ·rcases List.mem_append.1 b with b|b
  ·exact h.at' x b
  rw[List.mem_singleton] at b;subst b;refine⟨s.ps[i],List.getElem_mem d,hn,λhb=>f ?_⟩;rwa[show ue s i=s.ps[i] from Td d]
 rcases List.mem_append.1 b with b|b
 ·exact h.iw x b
 rw[List.mem_singleton] at b;subst b;exact it
theorem eE.queue(h:eE U w xb mp mw DP DW GP GW Q s)(hi:pF s.ps n=some i)(f:i<s.ps.length):xU w (GP n) 2 (qy s.ps[i] (Q n)) 306 (Q n) ((eW s n).map GW):=by
 have⟨_,hn,_,b,_,c⟩:=h.place hi;have a:=h.qs _ c;rw[hn] at a;refine⟨b,rfl,a,λk hk e=>?_,?_⟩
 ·have⟨cur,d⟩:=cW a hk;exact ef d b I e
 rw[List.length_map];have:=ak3 s n;have:=h.nl;omega
end
section
variable {w3 w4:Z0}{A6:DataW Value}{qZ:Int->Nat}{s:Bs}
theorem eE.Wn(h:eE U w xb mp mw DP DW GP GW Q s)(hi:pF s.ps n=some i)(W:i<s.ps.length)(hm:i6 w3 mw A6 (yo.map (·.bL)) qZ)(A:H (λk=>k=mw) w w3)(G:Kr w3 (GP n) 2 (qy s.ps[i] (Q n)) 306 (Q n) ((eW ⟨s.ps,yo⟩ n).map qZ) w4)(hw:∀x∈yo,w.heap[qZ x.bL]?=some (.cells (E7 x) 252 (0,0)))(hg:∀x∈yo,∀y∈yo,qZ x.bL=qZ y.bL->x.bL=y.bL)(K:∀p∈s.ps,p.num≠n->(eW ⟨s.ps,yo⟩ p.num).map qZ=(eW s p.num).map GW)(hu:∀x∈yo,¬U (qZ x.bL))(N:yo.length<=1000000):
  (∃Q',eE U w4 xb mp mw DP A6 GP qZ Q' ⟨s.ps,yo⟩)/\Zn U w w4:=by
 have⟨_,hn,_,r,_,g⟩:=h.place hi;have⟨m,hv,P,t,u⟩:=G;have o:=h.qs _ g;rw[hn] at o;have X:¬U (GP n):=by have:=h.up _ g;rw[hn] at this;exact this
 have B:∀k,(Q n).ownBlock=some k->¬U k:=by have:=h.uq _ g;rw[hn] at this;exact this
 have R:=A.size;have S:=t.size;have l:=(A.mono (λ_ _ h=>Or.inl h)).trans (t.mono (λ_ _ h=>Or.inr h));have C:∀{k:Nat} {c:Array Value} {T:TypeId},w.heap[k]?=some (.cells c T (0,0))->T≠306->T≠250->¬(k=mw\/k=GP n\/(Q n).ownBlock=some k):=by
  rintro k c T a n1 n2 (e|e|e)
  ·exact h.wm.ne a e
  ·exact ef a r n1 e
  have⟨cur,V⟩:=cW o e;exact ef a V n2 rfl
 have D:∀{k:Nat} {c:Array Value} {T:TypeId},w.heap[k]?=some (.cells c T (0,0))->k≠mp:=λa=>h.pm.ne a;have v:=λk(hk:m.ownBlock=some k)=>(u k hk).imp id (λh=>Z);refine⟨⟨λk=>if k=n then m else Q k,H.keep l h.x (C h.x I I),h.pm.keep l ?_,?_,h.mn,λp hp=>?_,λx F=>H.keep l (hw x F) (C (hw x F) I I),h.gp,hg,λp hp=>?_,λp hp q z k h1 d=>?_,h.ux,h.u1,h.u2,h.up,hu,λp hp k hk=>?_,λk hk=>Nat.lt_of_lt_of_le (h.low k hk) l.size,h.np,N⟩,l.mono (λk _ e=>?_)⟩
 ·rintro(e|e|e)
  ·exact h.mn e
  ·exact D r e.symm
  have⟨cur,a⟩:=cW o e;exact D a rfl
 ·refine hm.keep t ?_;rintro(e|e)
  ·exact h.wm.ne r e.symm
  have⟨cur,a⟩:=cW o e;exact h.wm.ne a rfl
 ·by_cases e:p.num=n
  ·have:=map_inj h.pm.nd hp g (e.trans hn.symm);subst this;show w4.heap[GP s.ps[i].num]?=some (.cells (qy _ (if s.ps[i].num=n then m else _)) _ _);rwa[if_pos hn,hn]
  show w4.heap[GP p.num]?=some (.cells (qy _ (if p.num=n then m else _)) _ _);rw[if_neg e];refine H.keep l (h.pb p hp) ?_;rintro(b|b|b)
  ·exact h.wm.ne (h.pb p hp) b
  ·exact e (by have:=h.gp p hp _ g (hn▸b);rw[this];exact hn)
  have⟨cur,a⟩:=cW o b;exact ef (h.pb p hp) a I rfl
 ·show ax cn w4 0 250 (if p.num=n then m else Q p.num) ((eW ⟨s.ps,yo⟩ p.num).map qZ);by_cases e:p.num=n
  ·rwa[if_pos e,e]
  rw[if_neg e,K p hp e];refine(h.qs p hp).kept l (λk hk f=>?_);have⟨cur,a⟩:=cW (h.qs p hp) hk;rcases f with f|f|f
  ·exact h.wm.ne a f
  ·exact ef a r I f
  exact e (by have:=h.qd p hp _ g k hk (hn▸f);rw[this];exact hn)
 ·have h1:=h1;have d:=d;by_cases e1:p.num=n
  ·by_cases b:q.num=n
   ·rw[e1,b]
   rw[if_pos e1] at h1;rw[if_neg b] at d;rcases v k h1 with j|j
   ·have:=h.qd q z _ g k d (hn▸j);exact absurd (this.trans hn) b
   have:=(iu (h.qs q z) d).2;omega
  by_cases b:q.num=n
  ·rw[if_neg e1] at h1;rw[if_pos b] at d;rcases v k d with j|j
   ·have:=h.qd p hp _ g k h1 (hn▸j);exact absurd (this.trans hn) e1
   have:=(iu (h.qs p hp) h1).2;omega
  rw[if_neg e1] at h1;rw[if_neg b] at d;exact h.qd p hp q z k h1 d
 ·have hk:=hk;by_cases e:p.num=n
  ·rw[if_pos e] at hk;rcases v k hk with j|j
   ·exact B k j
   intro f;have:=h.low k f;omega
  rw[if_neg e] at hk;exact h.uq p hp k hk
 rcases e with e|e|e
 ·rw[e];exact h.u2
 ·rwa[e]
 exact B k e
end
def Kc(t:Kt):Prop:=t.rg 0=0/\(∀j,0<=t.rg j/\t.rg j<4294967296)/\(0<=t.pc/\t.pc<4294967296)/\(t.st=0\/t.st=1)/\t.dV= -1/\t.dD= -1/\t.gr=false
structure bE(K:Kn):Prop where
 p:ie (K.n:Int) K.os K.rs
 c:Wf K.bs K.es
 x:Wx K.bs K.es
 cb:∀b∈K.bs,b.1∈K.os.map (·.2)
 rt:∀e∈K.es,0<=e.cap.rights/\e.cap.rights<=7/\0<=e.cap.root
 s:cU K.ss K.ck
 sn:∀e∈K.ss,e.num∈K.T.map (·.num)
 kl:K.ck<=K.ss.length
 b:lX K.b
 bp:∀p∈K.b.ps,p.num∈K.os.map (·.2)
 bw:K.b.ws=[]
 th:(K.T.map (·.num)).Pairwise (·<·)
 tn:∀n,n∈K.T.map (·.num)↔(6,n)∈K.os
 tr:∀t∈K.T,Kc t
 tk:EB K.ts K.t K.lf
 ll:K.L.length=8
 lb:∀l∈K.L,l.ga= -1\/0<=l.ga
 li:K.ci=List.replicate 8 []
 lo:K.co=List.replicate 8 []
theorem DN{x:Kt}:∀{T:List Kt},y∈oG x T↔y=x\/y∈T
 |[]=>by simp[oG]
 |z::r=>by
  unfold oG
  split
  ·simp
  rw[List.mem_cons,DN,List.mem_cons];constructor
  ·rintro(h|h|h)
   ·exact Or.inr (Or.inl h)
   ·exact Or.inl h
   exact Or.inr (Or.inr h)
  rintro(h|h|h)
  ·exact Or.inr (Or.inl h)
  ·exact Or.inl h
  exact Or.inr (Or.inr h)
theorem Q8{x:Kt}:n∈(oG x T).map (·.num)↔n=x.num\/n∈T.map (·.num):=by
 simp only[List.mem_map,DN];constructor
 ·rintro⟨y,h|h,rfl⟩
  ·exact Or.inl (h▸rfl)
  exact Or.inr ⟨y,h,rfl⟩
 rintro(h|⟨y,h,rfl⟩)
 ·exact⟨x,Or.inl rfl,h.symm⟩
 exact⟨y,Or.inr h,rfl⟩
theorem Yk{x:Kt}:∀{T:List Kt},(T.map (·.num)).Pairwise (·<·)->x.num∉T.map (·.num)->((oG x T).map (·.num)).Pairwise (·<·)
 |[],_,_=>by simp[oG]
 |z::r,h,hn=>by
  unfold oG
  split
  ·rename_i b;rw[List.map_cons,List.pairwise_cons];refine⟨λa ha=>?_,h⟩;rw[List.map_cons,List.mem_cons] at ha;rw[List.map_cons,List.pairwise_cons] at h;rcases ha with rfl|ha
   ·exact b
   exact Int.lt_trans b (h.1 a ha)
  rename_i d;rw[List.map_cons,List.pairwise_cons] at h|-;rw[List.map_cons,List.mem_cons] at hn;refine⟨λa ha=>?_,Yk h.2 (λc=>hn (Or.inr c))⟩;rcases Q8.1 ha with rfl|ha
  ·have:x.num≠z.num:=λe=>hn (Or.inl e)
   omega
  exact h.1 a ha
theorem agT(h:l.Pairwise (·<·)):l.Nodup:=h.imp (λh=>Z)
theorem bE.nb(h:bE K):K.bs.length<=256:=by
 have h1:=yI (K.bs.map (·.1)) (K.os.map (·.2)) h.x.nd (λx a=>by
  obtain⟨b,hb,rfl⟩:=List.mem_map.1 a;exact h.cb b hb)
 rw[List.length_map,List.length_map] at h1;have:=h.p.lo;omega
theorem bE.np(h:bE K):K.b.ps.length<=256:=by
 have h1:=yI (K.b.ps.map (·.num)) (K.os.map (·.2)) h.b.np (λx a=>by
  obtain⟨b,hb,rfl⟩:=List.mem_map.1 a;exact h.bp b hb)
 rw[List.length_map,List.length_map] at h1;have:=h.p.lo;omega
theorem bE.nt(h:bE K):K.T.length<=256:=by
 have h1:=yI (K.T.map (·.num)) (K.os.map (·.2)) (agT h.th) (λx a=>List.mem_map.2 ⟨_,(h.tn x).1 a,rfl⟩);rw[List.length_map,List.length_map] at h1;have:=h.p.lo;omega
theorem bE.ns(h:bE K):K.ss.length<=256:=by
 have h1:=yI (K.ss.map (·.num)) (K.T.map (·.num)) h.s.nd (λx a=>by
  obtain⟨b,hb,rfl⟩:=List.mem_map.1 a;exact h.sn b hb)
 rw[List.length_map,List.length_map] at h1;have:=h.nt;omega
def L9(bs:Lp):List Sl:=bs.flatMap λb=>(List.range 64).map λ(j:Nat)=>(b.1,(j:Int))
theorem afq(bs):(L9 bs).length=64*bs.length:=by
 unfold L9;induction bs with
 |nil=>rfl
 |cons a l b=>rw[List.flatMap_cons,List.length_append,b,List.length_map,List.length_range,List.length_cons];omega
theorem adD(h:iO n=true):1<=n/\n<=64:=by
 unfold iO at h;have:=of_decide_eq_true h;omega
theorem adk{es:List En}(h:Wf bs es)(x:Wx bs es):es.length<=64*bs.length:=by
 have hn:(es.map (·.at')).Nodup:=by
  have h1:=PK.1 h.so;refine h1.imp (fun {a b} c he=>?_);subst he;unfold oU at c;simp at c
 have h1:=yI (es.map (·.at')) (L9 bs) hn (λs hs=>by
  obtain⟨e,he,rfl⟩:=List.mem_map.1 hs;have⟨b,hb,d,f,g⟩:=x.ix e he;have i:=adD (h.bn b hb).1;unfold L9;refine List.mem_flatMap.2 ⟨b,hb,List.mem_map.2 ⟨e.at'.2.toNat,List.mem_range.2 Z,?_⟩⟩;rw[d];show(e.at'.1,((e.at'.2.toNat:Nat):Int))=e.at';rw[Int.toNat_of_nonneg f])
 rwa[List.length_map,afq] at h1
theorem bE.ne(h:bE K):K.es.length<=16384:=by
 have:=adk h.c h.x;have:=h.nb;omega
theorem bE.W5(h:bE K)(hp:ie (K.n:Int) os rs)(hs:∀o∈K.os,o∈os)(a:∀n,(6,n)∈os->(6,n)∈K.os):bE {K with os:=os,rs:=rs}:=by
 have hm:∀n,n∈K.os.map (·.2)->n∈os.map (·.2):=λn hn=>by
  obtain⟨o,c,rfl⟩:=List.mem_map.1 hn;exact List.mem_map.2 ⟨o,hs o c,rfl⟩
 exact⟨hp,h.c,h.x,λb hb=>hm _ (h.cb b hb),h.rt,h.s,h.sn,h.kl,h.b,λp d=>hm _ (h.bp p d),h.bw,h.th,λn=>⟨λhn=>hs _ ((h.tn n).1 hn),λhn=>(h.tn n).2 (a n hn)⟩,h.tr,h.tk,h.ll,h.lb,h.li,h.lo⟩
theorem bE.f'(h:bE K)(f):bE {K with f:=f}:=⟨h.p,h.c,h.x,h.cb,h.rt,h.s,h.sn,h.kl,h.b,h.bp,h.bw,h.th,h.tn,h.tr,h.tk,h.ll,h.lb,h.li,h.lo⟩
theorem XN{num:Int}(h:b∈kL bs num n):b∈bs\/b=(num,n):=by
 unfold kL at h;split at h
 ·rcases List.mem_append.1 h with h|h
  ·exact Or.inl h
  exact Or.inr (List.mem_singleton.1 h)
 exact Or.inl h
theorem bE.made(h:bE K)(num n)(hi:af num)(a:num∈K.os.map (·.2)):bE {K with bs:=kL K.bs num n}:=
 ⟨h.p,h.c.make num n,h.x.make num n hi,λb hb=>by
  rcases XN hb with hb|hb
  ·exact h.cb b hb
  rw[hb];exact a,h.rt,h.s,h.sn,h.kl,h.b,h.bp,h.bw,h.th,h.tn,h.tr,h.tk,h.ll,h.lb,h.li,h.lo⟩
theorem aib{s:Bs}(h:lX s)(hn:af n)(b):lX (qm s n b):=by
 unfold qm;split
 ·rename_i a;unfold zQ at a;split at a
  ·cases a
  split at a
  ·cases a
  rename_i c;refine h.opened hn ?_ b;cases d:pF s.ps n with
  |none=>rfl
  |some i=>rw[d] at c;exact absurd rfl c
 exact h
theorem aic{s:Bs}{b:Bool}{p:Pc}(h:p∈(qm s n b).ps):p∈s.ps\/p.num=n:=by
 unfold qm at h;split at h
 ·rcases List.mem_append.1 h with h|h
  ·exact Or.inl h
  rw[List.mem_singleton] at h;rw[h];exact Or.inr rfl
 exact Or.inl h
theorem aia(s n b):(qm s n b).ws=s.ws:=by unfold qm;split<;>rfl
theorem bE.opened(h:bE K)(n b)(hi:af n)(a:n∈K.os.map (·.2)):bE {K with b:=qm K.b n b}:=
 ⟨h.p,h.c,h.x,h.cb,h.rt,h.s,h.sn,h.kl,aib h.b hi b,λp hp=>by
  rcases aic hp with hp|hp
  ·exact h.bp p hp
  rw[hp];exact a,by show(qm _ _ _).ws=_;rw[aia];exact h.bw,h.th,h.tn,h.tr,h.tk,h.ll,h.lb,h.li,h.lo⟩
theorem aiV(n):Kc (qq n):=by
 refine⟨rfl,λj=>⟨Int.le_refl _,by show(0:Int)<_;decide⟩,⟨Int.le_refl _,by show(0:Int)<_;decide⟩,Or.inl rfl,rfl,rfl,rfl⟩
theorem bE.aed(h:bE K)(hi:af n)(hp:ie (K.n:Int) os rs)(a:os=K.os++[(6,n)]):bE {K with os:=os,rs:=rs,bs:=kL K.bs n 4,T:=oG (qq n) K.T}:=by
 have c:=hp.on;rw[a,List.map_append,List.nodup_append] at c;have d:n∉K.os.map (·.2):=λhn=>c.2.2 n hn n (by simp) rfl;have f:n∉K.T.map (·.num):=λhn=>d (List.mem_map.2 ⟨_,(h.tn n).1 hn,rfl⟩);have hm:=λm(hm:m∈K.os.map (·.2))=>a▸List.map_append▸List.mem_append_left _ hm;have i:n∈os.map (·.2):=by rw[a,List.map_append];exact List.mem_append_right _ (by simp)
 refine⟨hp,h.c.make n 4,h.x.make n 4 hi,λb hb=>?_,h.rt,h.s,λe he=>Q8.2 (Or.inr (h.sn e he)),h.kl,h.b,λp g=>hm _ (h.bp p g),h.bw,Yk h.th f,λm=>?_,λt ht=>?_,h.tk,h.ll,h.lb,h.li,h.lo⟩
 ·rcases XN hb with hb|hb
  ·exact hm _ (h.cb b hb)
  rwa[hb]
 ·show m∈(oG _ _).map _↔(6,m)∈os;rw[Q8,a,List.mem_append,h.tn m];show m=n\/_↔_\/(6,m)∈[(6,n)];simp only[List.mem_singleton,Prod.mk.injEq,true_and];exact Or.comm
 rcases DN.1 ht with rfl|ht
 ·exact aiV n
 exact h.tr t ht
theorem add_zero(h:iZ P os rs o=0):1<=o.1/\o.1<=8/\0<=o.2:=by
 unfold iZ at h;split at h
 ·cases h
 split at h
 ·cases h
 omega
theorem bE.obj(h:bE K)(x)(hi:af x.2.1):bE (dH K x).1:=by
 unfold dH;split
 ·exact h
 split
 ·rename_i he;have hp:=h.p.add (x.1,x.2.1);by_cases h1:x.1=1
  ·show bE (if x.1=1 then _ else _);rw[if_pos h1];have a:lR (K.n:Int) K.os K.rs (x.1,x.2.1)=K.os:=if_neg (λe=>e.2 h1);refine h.W5 hp (λo hm=>by rw[a];exact hm) (λn hn=>by rw[a] at hn;exact hn)
  show bE (if x.1=1 then _ else _);rw[if_neg h1];have a:lR (K.n:Int) K.os K.rs (x.1,x.2.1)=K.os++[(x.1,x.2.1)]:=if_pos ⟨he,h1⟩;have d:x.2.1∈(lR (K.n:Int) K.os K.rs (x.1,x.2.1)).map (·.2):=by rw[a,List.map_append];exact List.mem_append_right _ (by simp)
  unfold xM;by_cases b:x.1=6
  ·have f:¬x.1=5:=Z;simp only[f,b,if_true,if_false];rw[b] at a hp;exact(h.aed hi hp a).f' _
  have hb:=h.W5 hp (λo hm=>by rw[a];exact List.mem_append_left _ hm) (λn hn=>by
   rw[a] at hn;rcases List.mem_append.1 hn with hn|hn
   ·exact hn
   simp only[List.mem_singleton,Prod.mk.injEq] at hn;exact absurd hn.1.symm b)
  have c:=hb.f' (tV K.f K.n x.2.1).1;simp only[b,if_false];split
  ·exact c.made x.2.1 x.2.2 hi d
  split
  ·exact c.opened x.2.1 _ hi d
  exact c
 exact h
theorem bE.Ty(h:bE K)(x):bE (dB K x).1:=by
 unfold dB;split
 ·exact h.f' _
 exact h
theorem O8{c:Cp}(h:p6 c=true):0<=c.rights/\c.rights<=7/\c.root=0/\c.va=0:=by
 unfold p6 at h;simp only[Bool.and_eq_true,decide_eq_true_eq] at h;exact h.1.1
theorem bE.cap(h:bE K)(x)(hg:ot x.cap)(hn:af x.cap.num):bE (dI K x).1:=by
 unfold dI;split
 ·rename_i a;have hw:p6 x.cap=true:=by
   unfold zi at a;split at a
   ·cases a
   split at a
   ·cases a
   rename_i b;simpa using b
  have hw:=O8 hw;refine⟨h.p,h.c.put _ _ _ hg,h.x.put _ _ _ hn,h.cb,λe he=>?_,h.s,h.sn,h.kl,h.b,h.bp,h.bw,h.th,h.tn,h.tr,h.tk,h.ll,h.lb,h.li,h.lo⟩;simp only at he;unfold iQ at he;split at he
  ·rcases uh.1 he with rfl|he
   ·exact⟨hw.1,hw.2.1,by show 0<=x.cap.root;omega⟩
   exact h.rt e he
  exact h.rt e he
 exact h
theorem IV{p:α->Bool}{l:List α}(h:dL p l 0=some i):∃hi:i<l.length,p l[i]=true:=by
 have⟨h1,a⟩:=sZ h;exact⟨by simpa using h1,by simpa using a⟩
theorem aaH(bs es s):gY bs es s≠ .error 0:=by
 unfold gY;split
 ·intro h;injection h with h;cases h
 split
 ·intro h;injection h with h;cases h
 split
 ·intro h;injection h with h;cases h
 intro h;cases h
theorem an9{es:List En}{s:Sl}(h:gY bs es s=.ok i):∃hi:i<es.length,es[i].at'=s:=by
 unfold gY at h;split at h
 ·cases h
 split at h
 ·cases h
 split at h
 ·cases h
 rename_i k hk;injection h with h
 subst h;unfold jW at hk;have⟨h1,a⟩:=IV hk;exact⟨h1,of_decide_eq_true a⟩
theorem Tb{es:List En}{s:Sl}(h:(aI bs es s).2=0):∃i,gY bs es s=.ok i/\∃hi:i<es.length,es[i].at'=s/\(aI bs es s).1=es[i].cap:=by
 unfold aI at h|-
 cases hf:gY bs es s with
 |ok i=>
  have⟨hi,a⟩:=an9 hf;exact⟨i,rfl,hi,a,by simp[List.getD_eq_getElem?_getD,hi]⟩
 |error e=>
  rw[hf] at h;simp only at h;subst h;exact absurd hf (aaH _ _ _)
theorem bE.ajt(h:bE K){s:Sl}{c:Cp}(d:(aI K.bs K.es s).2=0/\c=(aI K.bs K.es s).1)(root)(hr:0<=root)(va rights):bE (nG K s c root va rights).1:=by
 have⟨i,hf,hi,k,a⟩:=Tb d.1;rw[<-d.2] at a;have f:=h.rt _ (List.getElem_mem hi);unfold nG;split
 ·refine bE.f' (K:={K with es:=gO K.bs K.es s {c with root:=root+1,va:=(DI c va:Int)}}) ⟨h.p,h.c.set _ _ (by rw[a];exact (h.c.gu _ (List.getElem_mem hi))),h.x.set _ _,h.cb,λe he=>?_,h.s,h.sn,h.kl,h.b,h.bp,h.bw,h.th,h.tn,h.tr,h.tk,h.ll,h.lb,h.li,h.lo⟩ _;simp only at he;unfold gO at he;rw[hf] at he;simp only at he;split at he
  ·rw[show K.es.getD i .df=K.es[i] from by simp[List.getD_eq_getElem?_getD,hi]] at he;obtain⟨g,j,_,_,b|b⟩:=zX hi he
   ·rw[b];show 0<=c.rights/\c.rights<=7/\0<=root+1;rw[a];exact⟨f.1,f.2.1,Z⟩
   rw[b];exact h.rt g j
  exact h.rt e he
 exact h.f' _
theorem aby(hp:ie P os rs){k:Int}(h:dJ os rs (k,n)=true):0<=n:=by
 unfold dJ at h;split at h
 ·have:=of_decide_eq_true h;exact this.1
 have h1:=of_decide_eq_true h;unfold zn at h1;rcases List.mem_append.1 h1 with h1|h1
 ·exact(hp.ok _ h1).2.2.1
 have⟨r,hr,he⟩:=List.mem_map.1 h1;have:=(hp.rk r hr).1;simp only[Prod.mk.injEq] at he;rw[<-he.2];unfold kB at this;omega
theorem bE.map(h:bE K)(x):bE (dj K x).1:=by
 unfold dj;split
 ·rename_i a;split
  ·exact h
  split
  ·exact h
  rename_i b;exact h.ajt ⟨a,rfl⟩ _ (aby h.p (by simpa using b)) _ _
 exact h
theorem bE.irq(h:bE K)(x):bE (fY K x).1:=by
 unfold fY;split
 ·exact h
 split
 ·exact h
 rename_i b;split
 ·exact h
 refine⟨h.p,h.c,h.x,h.cb,h.rt,h.s,h.sn,h.kl,h.b,h.bp,h.bw,h.th,h.tn,h.tr,h.tk,?_,λl a=>?_,h.li,h.lo⟩
 ·show(K.L.set _ _).length=8;rw[List.length_set];exact h.ll
 rcases List.mem_or_eq_of_mem_set a with a|a
 ·exact h.lb l a
 rw[a];exact Or.inr (aby h.p (k:=8) (n:=x.2.1) (by simpa using b))
theorem apK{p:Int}(h:e∈de es n d p):e∈es\/e.num=n:=by
 unfold de at h;split at h
 ·rcases List.mem_append.1 h with h|h
  ·exact Or.inl h
  rw[List.mem_singleton] at h;rw[h];exact Or.inr rfl
 exact Or.inl h
theorem apL{p:Int}(h:jn es n d p=0):(de es n d p).length=es.length+1:=by
 unfold de;rw[if_pos h,List.length_append,List.length_singleton]
theorem X7:(nJ es ck n).map (·.num)=es.map (·.num):=by
 unfold nJ;split
 ·rfl
 rename_i i hi;have⟨h1,a⟩:=IV (show dL _ _ 0=some i from hi);rw[List.map_set,show es.getD i .df=es[i] from by simp[List.getD_eq_getElem?_getD,h1]];show(es.map (·.num)).set i es[i].num=_;apply List.ext_getElem (by simp);intro k b c;rw[List.getElem_set];split
 ·rename_i he;subst he;simp
 rfl
theorem akj:(nJ es ck n).length=es.length:=by
 have:=congrArg List.length (X7 (es:=es) (ck:=ck) (n:=n));simpa using this
theorem Dt(hi:i<T.length)(hy:y.num=T[i].num):(T.set i y).map (·.num)=T.map (·.num):=by
 rw[List.map_set];apply List.ext_getElem (by simp);intro k a b;rw[List.getElem_set];split
 ·rename_i he;subst he;simp[hy]
 rfl
theorem Dr(h:da T n=some i):∃hi:i<T.length,T[i].num=n:=by
 have⟨h1,a⟩:=IV (show dL _ _ 0=some i from h);exact⟨h1,of_decide_eq_true a⟩
def Kd(x:Tc):Prop:=(∀j,0<=x.rg j/\x.rg j<4294967296)/\(0<=x.pc/\x.pc<4294967296)
theorem bE.Vb(h:bE K)(hi:i<K.T.length)(hy:y.num=K.T[i].num)(hk:Kc y):bE {K with T:=K.T.set i y}:=by
 have e:=Dt hi hy;refine⟨h.p,h.c,h.x,h.cb,h.rt,h.s,λa ha=>by show a.num∈(K.T.set i y).map _;rw[e];exact h.sn a ha,h.kl,h.b,h.bp,h.bw,by show((K.T.set i y).map _).Pairwise _;rw[e];exact h.th,λn=>by show n∈(K.T.set i y).map _↔_;rw[e];exact h.tn n,λt ht=>?_,h.tk,h.ll,h.lb,h.li,h.lo⟩;rcases List.mem_or_eq_of_mem_set ht with ht|ht
 ·exact h.tr t ht
 rwa[ht]
theorem bE.Ic(h:bE K){p:Int}(hn:n∈K.T.map (·.num)):bE {K with ss:=de K.ss n d p}:=by
 refine⟨h.p,h.c,h.x,h.cb,h.rt,h.s.add n d p,λe he=>?_,?_,h.b,h.bp,h.bw,h.th,h.tn,h.tr,h.tk,h.ll,h.lb,h.li,h.lo⟩
 ·rcases apK he with he|he
  ·exact h.sn e he
  rwa[he]
 show K.ck<=(de K.ss n d p).length;have:=h.kl;unfold de;split
 ·rw[List.length_append];omega
 exact this
theorem agF(h:jw es n=0):(du es n).isSome=true:=by
 unfold jw at h;split at h
 ·cases h
 rename_i a;rw[a];rfl
theorem agp{x:Tc}(h:Kd x){t:Kt}(ht:Kc t):Kc {t with rg:=pk x.rg,pc:=x.pc}:=by
 refine⟨rfl,λj=>?_,h.2,ht.2.2.2⟩;show 0<=(if j=0 then (0:Int) else x.rg j)/\(if j=0 then (0:Int) else x.rg j)<_;split
 ·decide
 exact h.1 j
theorem bE.bL(h:bE K)(x)(g:Kd x):bE (di K x).1:=by
 unfold di;split
 ·exact h
 rename_i i hi;have⟨a,hn⟩:=Dr hi;have hg:K.T.getD i .df=K.T[i]:=by simp[List.getD_eq_getElem?_getD,a]
 have hk:=agp g (h.tr _ (List.getElem_mem a));have b:=List.mem_map.2 ⟨_,List.getElem_mem a,hn⟩;split
 ·rename_i he;simp only[hg];split
  ·have h1:=(h.Ic (n:=x.num) (d:=x.cy) (p:=x.prio) b).Vb a (y:={{K.T[i] with rg:=pk x.rg,pc:=x.pc} with st:=1}) rfl ⟨hk.1,hk.2.1,hk.2.2.1,Or.inr rfl,hk.2.2.2.2⟩;split
   ·rename_i hr;have c:=h1.s.last x.num;rw[agF hr,if_pos rfl] at c;refine⟨h1.p,h1.c,h1.x,h1.cb,h1.rt,c,λe j=>?_,?_,h1.b,h1.bp,h1.bw,h1.th,h1.tn,h1.tr,h1.tk,h1.ll,h1.lb,h1.li,h1.lo⟩
    ·have f:e.num∈(nJ (de K.ss x.num x.cy x.prio) K.ck x.num).map (·.num):=List.mem_map.2 ⟨e,j,rfl⟩;rw[X7] at f;have⟨k,l,m⟩:=List.mem_map.1 f;rw[<-m];exact h1.sn k l
    show K.ck+1<=(nJ _ _ _).length;rw[akj,apL he];have:=h.kl;omega
   exact h1
  exact(h.Ic (n:=x.num) (d:=x.cy) (p:=x.prio) b).Vb a (y:={K.T[i] with rg:=pk x.rg,pc:=x.pc}) rfl hk
 exact h
theorem bE.rest(h:bE K):∀(l:List Int),(∀n∈l,n∈K.T.map (·.num))->∀ss,bE {K with ss:=ss}->bE {K with ss:=qj ss l}
 |[],_,ss,hs=>hs
 |n::r,a,ss,hs=>bE.rest h r (λm hm=>a m (List.mem_cons_of_mem _ hm)) _ (hs.Ic (n:=n) (d:=0) (p:=0) (a n List.mem_cons_self))
end Go.Proofs.YtdjlkahbpdoemaaGreatDoor

import Derived.Test.YtdjlkahbpdoemaaGreatDoorCq12
set_option maxRecDepth 100000
set_option maxHeartbeats 8000000
set_option linter.unusedVariables false
set_option linter.unusedSimpArgs false
open Go Go.Vx Go.Proofs.Tryz Go.ChangeShapes Go.WideShapes Go.ChangeAt Go.RowKit
variable {α β:Type}{b:Bool}{D D2 DP DW y:DataW Value}{e:En}{P n t:Int}{G GP GW:Int->Nat}{a o:Int×Int}{es:List En}{fD:List Int}{IG ls:List Sl}{Ps Qs:List ff}{l xs:List α}{kl:Lit}{left:Lit->Bool}{bs os rs vI:Lp}{N fG gb i mb mp mw ob r rc xb:Nat}{T:TypeId}{w w2 w3 wr wx:Z0}{U:Z1}{a0 a1 nv v v2:Z3}
namespace Go.Proofs.YtdjlkahbpdoemaaGreatDoor
theorem apA(hp:ie P os rs)(n):dJ os rs (0,n)=false:=by
 unfold dJ;rw[if_neg (show¬((0:Int)=9\/(0:Int)=10) from I)];refine decide_eq_false (λh=>?_);unfold zn at h;rcases List.mem_append.1 h with h|h
 ·have:=(hp.ok _ h).1;simp only at this;omega
 have⟨r,_,he⟩:=List.mem_map.1 h;simp only[Prod.mk.injEq] at he;exact absurd he.1 I
theorem apz(hp:ie P os rs)(n):dJ os rs (1,n)=((nE rs n).2==0):=by
 unfold dJ;rw[if_neg (show¬((1:Int)=9\/(1:Int)=10) from I)];have hm:(1,n)∈zn os rs↔n∈rs.map (·.1):=by
  unfold zn;rw[List.mem_append];constructor
  ·rintro(h|h)
   ·have:=(hp.ok _ h).1;simp only at this;omega
   have⟨r,hr,he⟩:=List.mem_map.1 h;simp only[Prod.mk.injEq] at he;exact List.mem_map.2 ⟨r,hr,he.2⟩
  intro h;have⟨r,hr,he⟩:=List.mem_map.1 h;exact Or.inr (List.mem_map.2 ⟨r,hr,he▸rfl⟩)
 unfold nE;cases hf:sK rs n with
 |none=>
  refine decide_eq_false (λh=>?_);have⟨r,hr,he⟩:=List.mem_map.1 (hm.1 h);have:=jQ (show dL _ rs 0=none from hf) r hr;simp[he] at this
 |some i=>
  have⟨hi,hn⟩:=IV (show dL _ rs 0=some i from hf);refine decide_eq_true (hm.2 (List.mem_map.2 ⟨rs[i],List.getElem_mem hi,of_decide_eq_true hn⟩))
theorem apB(hp:ie P os rs){k:Int}(e:k≠0)(h1:k≠1)(l:k≠9)(m:k≠10):dJ os rs (k,n)=(((atR P os n).2==0)&&decide ((atR P os n).1=(k,n))):=by
 unfold dJ;rw[if_neg (show¬(k=9\/k=10) from Z)];have hm:(k,n)∈zn os rs↔(k,n)∈os:=by
  unfold zn;rw[List.mem_append];constructor
  ·rintro(h|h)
   ·exact h
   have⟨r,_,he⟩:=List.mem_map.1 h;simp only[Prod.mk.injEq] at he;exact absurd he.1.symm h1
  exact Or.inl
 unfold atR;by_cases hb:n<0\/P<=n
 ·rw[if_pos hb];refine decide_eq_false (λh=>?_);have:=hp.ok _ (hm.1 h);simp only at this;omega
 rw[if_neg hb];cases hf:GG os n with
 |none=>
  have:¬(k,n)∈zn os rs:=λh=>by
   have:=jQ (show dL _ os 0=none from hf) _ (hm.1 h);simp at this
  rw[decide_eq_false this];show false=((0:Int)==0&&decide (((0:Int),(0:Int))=(k,n)));rw[decide_eq_false (λh=>e (by injection h with f;exact f.symm))];rfl
 |some i=>
  have⟨hi,hn⟩:=IV (show dL _ os 0=some i from hf);have hn:=of_decide_eq_true hn;show decide _=((0:Int)==0&&decide (os.getD i (0,0)=(k,n)));rw[show os.getD i (0,0)=os[i] from by simp[List.getD_eq_getElem?_getD,hi],Bool.eq_iff_iff];simp only[decide_eq_true_eq,Bool.and_eq_true,beq_self_eq_true,true_and,hm];constructor
  ·intro h;have⟨j,c,he⟩:=List.getElem_of_mem h;have d:=List.pairwise_iff_getElem.1 hp.on;have g:i=j:=by
    rcases Nat.lt_trichotomy i j with a|a|a
    ·have b:=d i j (by simpa using hi) (by simpa using c) a;rw[List.getElem_map,List.getElem_map,hn,he] at b;exact absurd rfl b
    ·exact a
    have b:=d j i (by simpa using c) (by simpa using hi) a;rw[List.getElem_map,List.getElem_map,hn,he] at b;exact absurd rfl b
   subst g;exact he
  intro h;rw[<-h];exact List.getElem_mem hi
end Go.Proofs.YtdjlkahbpdoemaaGreatDoor
namespace Go.Vx
theorem aN.V6(h:aN Ps U w)(s:Nat->Nat)(d:∀i,i<Qs.length->Qs[i]?=Ps[s i]?)(hi:∀i,i<Qs.length->∀j,j<Qs.length->s i=s j->i=j):aN Qs U w:=by
 have⟨hu,C,hp,e,f⟩:=h;refine⟨hu,λi k=>i<Qs.length/\C (s i) k,λi P b=>?_,λi j k h1 a=>hi i h1.1 j a.1 (e _ _ k h1.2 a.2),λi k hk=>f _ k hk.2⟩;have c:=(List.getElem?_eq_some_iff.1 b).1;rw[d i c] at b;have h1:=hp _ P b;exact⟨h1.1,h1.1 _ _ (λ_=>False) w w h1.2 (H.refl _ _) (λ_ _ h=>h.elim) (λk hk=>Or.inl ⟨hk.1,λa=>hk.2 ⟨c,a⟩⟩)⟩
end Go.Vx
namespace Go.Proofs.YtdjlkahbpdoemaaGreatDoor
variable {K:Kn}{Q q:Kn×Int×Nat}
theorem Wg(st K)(l:List α)(i)(h:i<l.length):bf st K (l.drop i) i=if (st K l[i]).2=0 then bf st (st K l[i]).1 (l.drop (i+1)) (i+1) else ((st K l[i]).1,(st K l[i]).2,i):=by
 rw[List.drop_eq_getElem_cons h];rfl
theorem ag1(st K)(l:List α)(i j)(h:l.length<=i):bf st K (l.drop i) j=(K,0,0):=by
 rw[List.drop_eq_nil_of_le h];rfl
theorem rj{st:Kn->α->Kn×Int}(l)(h:q.2.1≠0):bO st q l=q:=if_neg h
theorem Hu{st:Kn->α->Kn×Int}(l)(h:q.2.1=0):bO st q l=bf st q.1 l 0:=if_pos h
structure fH{α:Type}(st:Kn->α->Kn×Int)(l:List α)(Q:Kn×Int×Nat)(K:Kn)(i:Nat):Prop where
 le:i<=l.length
 q:bf st K (l.drop i) i=Q
theorem fH.start(st K)(l:List α):fH st l (bf st K l 0) K 0:=⟨Nat.zero_le _,List.drop_zero▸rfl⟩
theorem fH.next{st:Kn->α->Kn×Int}(h:fH st l Q K i)(hi:i<l.length)(a:(st K l[i]).2=0):fH st l Q (st K l[i]).1 (i+1):=⟨hi,by rw[<-h.q,Wg st K l i hi,if_pos a]⟩
theorem fH.bad{st:Kn->α->Kn×Int}(h:fH st l Q K i)(hi:i<l.length)(a:(st K l[i]).2≠0):Q=((st K l[i]).1,(st K l[i]).2,i):=by rw[<-h.q,Wg st K l i hi,if_neg a]
theorem fH.fin{st:Kn->α->Kn×Int}(h:fH st l Q K i)(hi:l.length<=i):Q=(K,0,0):=h.q▸ag1 st K l i i hi▸rfl
structure TS(S:Sk):Prop where
 n:af S.n
 c:S.c<4294967296
 ts:S.ts.length<=10000000000000
 ob:∀x∈S.ob,af x.1/\af x.2.1/\af x.2.2
 eM:∀x∈S.eM,af x.1/\x.2.length<=140737488355328
 cp:∀x∈S.cp,ot x.cap/\af x.cap.num/\af x.cap.rights/\af x.at'.1/\af x.cw.1
 mp:∀x∈S.mp,af x.root/\x.va<4294967296/\af x.rights/\af x.at'.1
 th:∀x∈S.th,Kd x/\af x.num
 iq:∀x∈S.iq,af x.1/\af x.2.1
theorem akr{n:Nat}(hm:w.ownsMap prog 3 RH mb n D)(hs:∀k,af k->Maps.has D (.int .i64 k)=(bq bs k).isSome)(d:(bs.map (·.1)).Nodup)(h:∀b∈bs,af b.1):(bs.map (·.1)).Perm (intKeys D)/\Maps.size D=bs.length:=by
 have⟨l,c,i,_⟩:=hm.entries IL;have⟨j,e,o⟩:=hm.keysOf;obtain rfl:l=j:=by rw[c] at e;simpa using e
 have hk:∀p∈l,∃x,p.1=.int .i64 x/\af x:=λp hp=>by
  have⟨v,hv⟩:=o p hp;have⟨x,_,a,hw⟩:=Maps.keyOf_i64 underlying3 hv;exact⟨x,a,alR hw⟩
 have hp:(bs.map (·.1)).Perm (intKeys D):=by
  rw[c] at hs|-;refine perm_intKeys i (λp hp=>?_) d (λx=>?_)
  ·have⟨x,a,_⟩:=hk p hp;exact⟨x,a⟩
  constructor
  ·intro a;obtain⟨b,hb,rfl⟩:=List.mem_map.1 a;rw[hs _ (h b hb),(FK d hb).1];rfl
  intro a;have f:=a;rw[Maps.has_eq,List.any_eq_true] at f;have⟨p,hp,g⟩:=f;have⟨y,hy,q⟩:=hk p hp;rw[hy] at g;have r:y=x:=by simpa[Lit.sameKey] using g
  subst r;rw[hs y q] at a;have⟨m,hm⟩:=Option.isSome_iff_exists.1 a;exact List.mem_map.2 ⟨_,Ma hm,rfl⟩
 refine⟨hp,?_⟩;have h1:=hp.length_eq;rw[c] at h1|-;rw[Maps.size_eq];simp only[intKeys,List.length_map] at h1;exact h1.symm
section
variable {Q:Sl->Pl}
theorem dC.keys(h:dC U w xb mb D G bs Q):(bs.map (·.1)).Perm (intKeys D)/\Maps.size D=bs.length:=akr h.m h.hs h.nd h.ib
end
theorem ahq{b:Nat}{a c d e f g i k l m:Z3}(h:w.heap[b]?=some (.cells #[a,c,d,e,f,g,i,k,l,m] 236 (0,0))):(w.cell? (E b 0)=some a/\w.cell? (E b 1)=some c/\w.cell? (E b 2)=some d/\w.cell? (E b 3)=some e/\w.cell? (E b 4)=some f/\w.cell? (E b 5)=some g/\w.cell? (E b 6)=some i/\w.cell? (E b 7)=some k/\w.cell? (E b 8)=some l/\w.cell? (E b 9)=some m)/\∀j,w.frozen? (E b j)=false:=
 ⟨⟨Zl h,Zl h,Zl h,Zl h,Zl h,Zl h,Zl h,Zl h,Zl h,Zl h⟩,λj=>by simp[World.frozen?,h]⟩
section
open Go.Sort Go.Shelf
theorem aks(mb w):Zk 325 #[.map (some mb)] w λe w'=>Zr e (.func (.func 357) #[] #[M w.heap.size])/\w'=w.alloc (.cells #[.map (some mb)] 213):=
 (callsIn_wide (n:=5)).1 (AnyZI.keys_in keysA Fence.wide 5 trivial rfl (some mb) w)
theorem VM(m):AnyZI.SortsIn prog sortedA_ren Fence.wide m:=
 ⟨λa off cap ss W b c d=>callsIn_wide.2 (slices_Sort_int a off cap ss W b c d),
  λp cap W=>callsIn_wide.2 (slices_Sort_int_none p cap W)⟩
def oD(bs:Lp):List Int:=(bs.map (·.1)).mergeSort (λx y=>decide (x<=y))
theorem aaQ(l):fl kN l=l.map encZ:=by
 induction l with
 |nil=>rfl
 |cons a l b=>rw[tD,b];rfl
theorem aiF(bs):(oD bs).length=bs.length:=by unfold oD;rw[List.length_mergeSort,List.length_map]
end
section
variable {Q:Sl->Pl}
open Go.Sort Go.Shelf
theorem afn(h:dC U w xb mb D G bs Q):Zk 22 #[.func (.func 357) #[] #[M w.heap.size]] (w.alloc (.cells #[.map (some mb)] 213)) λe w'=>∃v,Zr e v/\ax kN w' w.heap.size 3 v (oD bs)/\Zq w w':=by
 have⟨c,a⟩:=h.keys;have i:=h.nb;have j:=h.m.lt;have d:SeqGives Fence.wide 2 prog 357 #[M w.heap.size] encZ (λss=>ss.Perm (intKeys D)) (Maps.size D) (w.alloc (.cells #[.map (some mb)] 213)):=
  AnyZI.keys_gives (ρ:=keysA_ren) {keysA with} Fence.wide _ trivial rfl Z w.heap.size mb bs.length D _ (by simp) (by simp) (h.m.alloc _)
 have b:=AnyZI.sorted_in sortedA Fence.wide 5 trivial trivial trivial trivial rfl Z (VM _) (enters_of func64 Zx rfl) 357 #[M w.heap.size] trivial (enters_of func357 Zx rfl) _ _ (by rw[a];unfold maxLen;omega) (by rw[a];omega) _ d;change CallsIn _ _ prog 22 _ _ _ at b;refine((callsIn_wide (n:=5)).1 b).m ?_;rintro e w' ⟨v,ss,rfl,hp,f,_,hb⟩;have e1:ss.mergeSort (λx y=>decide (x<=y))=oD bs:=mergeSort_of_perm_i (hp.trans c.symm);have g:ss.length=(oD bs).length:=by rw[<-e1,List.length_mergeSort]
 refine⟨v,rfl,?_,?_⟩
 ·have h1:w'.ownsRow (w.alloc (.cells #[.map (some mb)] 213)).heap.size 3 1 v (oD bs).length (fl kN (oD bs)):=by
   rw[e1,g] at f;rwa[aaQ]
  exact Qx (L:=kN) h1 (by simp)
 exact((H.refl _ w).alloc _).trans (H.zS hb (λk hk l=>Z))
end
section
variable {Q:Sl->Pl}
def Gw(Q:Sl->Pl)(s:Sl):En:=⟨s,(Q s).1,(Q s).2⟩
def mG(Q:Sl->Pl)(num:Int)(k:Nat):List En:=(List.range k).flatMap λ(i:Nat)=>if (Q (num,(i:Int))).1.kind=0 then [] else [Gw Q (num,(i:Int))]
end
def Fl(bs:Lp)(num:Int):Nat:=((bq bs num).getD 0).toNat
section
variable {Q:Sl->Pl}
def lL(Q:Sl->Pl)(bs:Lp)(l:List Int):List En:=l.flatMap λnum=>mG Q num (Fl bs num)
theorem P4(Q num k):mG Q num (k+1)=mG Q num k++(if (Q (num,(k:Int))).1.kind=0 then [] else [Gw Q (num,(k:Int))]):=by
 unfold mG;rw[List.range_succ,List.flatMap_append];simp
theorem aaZ(Q bs)(l:List Int)(j)(a:j<l.length):lL Q bs (l.take (j+1))=lL Q bs (l.take j)++mG Q l[j] (Fl bs l[j]):=by
 unfold lL;rw[List.take_succ_eq_append_getElem a,List.flatMap_append];simp
theorem IF{num:Int}{k:Nat}:e∈mG Q num k↔∃i:Nat,i<k/\(Q (num,(i:Int))).1.kind≠0/\e=Gw Q (num,(i:Int)):=by
 unfold mG;rw[List.mem_flatMap];constructor
 ·rintro⟨i,hi,he⟩;by_cases h:(Q (num,(i:Int))).1.kind=0
  ·rw[if_pos h] at he;cases he
  rw[if_neg h] at he;exact⟨i,List.mem_range.1 hi,h,by simpa using he⟩
 rintro⟨i,hi,h,rfl⟩;exact⟨i,List.mem_range.2 hi,by rw[if_neg h];simp⟩
end
theorem Xg(bs x):x∈oD bs↔∃b∈bs,b.1=x:=by
 unfold oD;rw[List.mem_mergeSort,List.mem_map]
theorem aiE(hn:(bs.map (·.1)).Nodup):(oD bs).Pairwise (λa b=>a<b):=by
 have h1:(oD bs).Pairwise (λa b=>(decide (a<=b))=true):=List.pairwise_mergeSort (λa b c h1 d=>by simp only[decide_eq_true_eq] at*;omega) (λa b=>by simp only[Bool.or_eq_true,decide_eq_true_eq];omega) _;have d:(oD bs).Nodup:=(List.Perm.nodup_iff (List.mergeSort_perm _ _)).2 hn;refine(h1.and d).imp (fun {a b} h=>?_);have e:=of_decide_eq_true h.1;have f:=h.2;omega
section
variable {Q:Sl->Pl}
theorem Wi(Q:Sl->Pl)(num:Int):∀k,(mG Q num k).Pairwise (λa b=>oU a.at' b.at'=true)
 |0=>by simp[mG]
 |k+1=>by
  rw[P4,List.pairwise_append];refine⟨Wi Q num k,?_,λa ha b hb=>?_⟩
  ·split
   ·exact List.Pairwise.nil
   simp
  obtain⟨i,hi,_,rfl⟩:=IF.1 ha
  split at hb
  ·cases hb
  simp only[List.mem_cons,List.not_mem_nil,or_false] at hb;subst hb;exact decide_eq_true (Or.inr ⟨rfl,by show(i:Int)<(k:Int);omega⟩)
theorem anH(hn:(bs.map (·.1)).Nodup):uV (lL Q bs (oD bs)):=by
 unfold uV lL;rw[List.pairwise_flatMap];refine⟨λa _=>Wi Q a _,(aiE hn).imp (fun {a b} c x d y hy=>?_)⟩;obtain⟨i,_,_,rfl⟩:=IF.1 d;obtain⟨j,_,_,rfl⟩:=IF.1 hy;exact decide_eq_true (Or.inl c)
end
theorem afe{l m:List En}(h1:uV l)(d:uV m)(h:∀e,e∈l↔e∈m):l=m:=by
 have n1:l.Nodup:=h1.imp (fun {a b} c e=>by subst e;rw[Oi] at c;cases c);have n2:m.Nodup:=d.imp (fun {a b} c e=>by subst e;rw[Oi] at c;cases c);refine List.Perm.eq_of_pairwise (le:=λ(a b:En)=>oU a.at' b.at'=true) (λa b _ _ f g=>?_) h1 d ((List.perm_ext_iff_of_nodup n1 n2).2 h);have:=abz f g;rw[Oi] at this;cases this
theorem anI(hf:Wf bs es)(c:Wx bs es):lL (bY es) bs (oD bs)=es:=by
 refine afe (anH c.nd) hf.so (λe=>?_);unfold lL;rw[List.mem_flatMap];constructor
 ·rintro⟨num,h,he⟩;obtain⟨i,hi,hk,rfl⟩:=IF.1 he;rcases TH es (num,(i:Int)) with⟨d,g,f⟩|hn
  ·have:=wQ hf.once g;rw[f] at this;unfold Gw;rw[this];have a:(⟨(num,(i:Int)),d.cap,d.cw⟩:En)=d:=f▸rfl;rwa[a]
  rw[Bo hn] at hk;exact absurd rfl hk
 intro he;have⟨b,hb,h1,g,f⟩:=c.ix e he;refine⟨e.at'.1,(Xg bs _).2 ⟨b,hb,h1⟩,IF.2 ⟨e.at'.2.toNat,?_,?_,?_⟩⟩
 ·unfold Fl;rw[<-h1,(FK c.nd hb).1];simp only[Option.getD_some];omega
 ·have a:(e.at'.1,((e.at'.2.toNat:Nat):Int))=e.at':=Prod.ext rfl (by simp only;omega);rw[a,wQ hf.once he];have:=c.kd e he;simp only;omega
 have a:(e.at'.1,((e.at'.2.toNat:Nat):Int))=e.at':=Prod.ext rfl (by simp only;omega);rw[a];unfold Gw;rw[wQ hf.once he]
section
variable {Q:Sl->Pl}
theorem agj(Q num k n)(h:k<=n):(mG Q num k).length<=(mG Q num n).length:=by
 induction n with
 |zero=>
  have:k=0:=Z;subst this;exact Nat.le_refl _
 |succ n a=>
  by_cases hk:k=n+1
  ·subst hk;exact Nat.le_refl _
  rw[P4,List.length_append];have:=a Z;omega
theorem ahO(Q bs l j)(a:j<l.length)(k)(hk:k<=Fl bs l[j]):(lL Q bs (l.take j)++mG Q l[j] k).length<=(lL Q bs l).length:=by
 have b:lL Q bs l=lL Q bs (l.take (j+1))++lL Q bs (l.drop (j+1)):=by
  unfold lL;rw[<-List.flatMap_append,List.take_append_drop]
 rw[b,aaZ Q bs l j a];have:=agj Q l[j] k _ hk;simp only[List.length_append];omega
theorem acB(h:dC U w xb mb D G bs Q):Zk 285 #[M xb] w λe w'=>∃v,Zr e v/\ax kN w' w.heap.size 3 v (oD bs)/\Zq w w':=by
 have c0:=h.c0;go_enter func285,ntmps285;go_wp2_with fail;refine (Y (aks mb w)).j.m ?_;rintro e w1 ⟨rfl,rfl⟩;go_wp2_with fail;refine (Y (afn h)).j.m ?_;rintro e w2 ⟨nv,rfl,a,d⟩;have b:=Y (⟨a,d⟩:_/\_);have⟨np,f,c,_⟩:=a.form;generalize (oD bs).length=Zp at c;subst c;go_wp2_with fail;all_goals
  go_ret;exact⟨_,rfl,b.j.1,b.j.2⟩
end
theorem jo.quiet(h:jo U w xb bs es)(a:Zq w w2):jo U w2 xb bs es:=by
 have⟨mb,D,G,h,hf,b,c⟩:=h;exact⟨mb,D,G,h.quiet a,hf,b,c⟩
structure vX(w:Z0)(ob:Nat)(o:Sl)(nv:Z3)(fD:List Int)(v:Z3)(ls:List Sl)(wr:Z0):Prop where
 on:Zq w wr
 o0:wr.heap[ob]?=some (.cells #[O o.1,O o.2] 71 (0,0))
 nu:ax kN wr w.heap.size 3 nv fD
 ow:ax dG wr w.heap.size 45 v ls
theorem vX.quiet{o:Sl}(h:vX w ob o nv fD v ls wr)(a:Zq wr wx):vX w ob o nv fD v ls wx:=
 ⟨h.on.trans a,(a.block ob (aB h.o0) id)▸h.o0,h.nu.kept a (λ_ _ h=>h),h.ow.kept a (λ_ _ h=>h)⟩
theorem vX.push{o:Sl}(h:vX w ob o nv fD v ls wr)(c:ax dG wx w.heap.size 45 v2 IG)(a:H (λk=>v.ownBlock=some k) wr wx):vX w ob o nv fD v2 IG wx:=
 ⟨h.on.beyond a (λk hk=>(iu h.ow hk).1),by
  rw[a.block ob (aB h.o0) (λe=>by
   obtain⟨c2,b⟩:=cW h.ow e
   exact ef h.o0 b I rfl)]
  exact h.o0,h.nu.kept a (λk hk e=>by
  obtain⟨c1,h1⟩:=cW h.nu hk;obtain⟨c2,b⟩:=cW h.ow e
  exact ef h1 b I rfl),c⟩
theorem amg(a b o):gE (a++b) o=gE a o++gE b o:=by
 unfold gE;rw[List.filter_append,List.map_append]
theorem acL(hc:jo U w xb bs es)(o):Zk 222 #[M xb,.agg #[O o.1,O o.2]] w λe w'=>∃v,Zr e v/\ax dG w' w.heap.size 45 v (gE es o)/\Zq w w':=by
 have⟨c,a⟩:=o;have⟨w1,F⟩:=Ze (w.alloc (.cells #[O c,O a] 71));have K:=Za F;have aP:w1.heap[w.heap.size]?=some (.cells #[O c,O a] 71 (0,0)):=by rw[F];exact heap_alloc_last w _
 have⟨mb,D,G,h,hf,P,hl⟩:=hc;have X:=Y (anI hf P);have HX:=Y h;have AQ:=Y (acB (h.quiet K));have jT:=aiF bs;have Q:=h.nb;have j5:=Y hl
 have CX:Hid (∀x∈oD bs,af x/\∃n,bq bs x=some n/\Fl bs x=n.toNat/\1<=n/\n<=64):=λx nN=>by
  obtain⟨b,hb,rfl⟩:=(Xg bs x).1 nN;have h1:=(FK P.nd hb).1;exact⟨P.ib b hb,b.2,h1,by unfold Fl;rw[h1];rfl,h.bn _ _ h1⟩
 have u:=Y (⟨K,aP⟩:_/\_);have oZ:Hid (w.heap.size<=w1.heap.size):=K.size;obtain⟨fD,ZR⟩:∃l,l=oD bs:=⟨_,rfl⟩
 rw[<-ZR] at X AQ jT CX;clear h hf P hl ZR K aP;dsimp only;go_enter func222,ntmps222;go_upto_region 2 with fail
 rw[<-F];obtain⟨ob,RQ⟩:=Ze (w.heap.size);rw[<-RQ] at u|-;have oq:=Y RQ;clear F RQ;go_wp2_with fail;refine AQ.j.m ?_;rintro e w2 ⟨nv,rfl,ZS,RN⟩;have xt:=Qx ZS oZ.j;have zy:Hid (vX w ob (c,a) nv fD (.slice none 0 0) (gE (lL (bY es) bs (fD.take 0)) (c,a)) w2):=⟨u.j.1.trans RN,by rw[RN.block ob (aB u.j.2) id];exact u.j.2,xt,ax.nil _ _ _ _⟩
 obtain⟨np,y,BZ,_,_,Jf⟩:=xt.form;obtain⟨f,hM⟩:=Ze (fD.length);have HM:=Y hM;rw[<-hM] at BZ;have ab:f<=1000000:=Z;subst BZ
 have Ui:Hid (0<f->∃g,np=some (E g 0)):=λh=>by
  obtain⟨g,h1,_⟩:=Jf Z;exact⟨g,h1⟩
 clear xt ZS RN hM AQ Q jT Jf u oZ oq
 go_wp2
 go_loopw [5,7,8,9,13] (λv _ _ _ d wr=>∃j:Nat,d=O (j:Int)/\j<=f/\Hid (vX w ob (c,a) (.slice np f y) fD v (gE (lL (bY es) bs (fD.take j)) (c,a)) wr)) (λ_ _ _ _ d _=>f - (RowKit.intOf d).toNat)
 case atStart=>exact⟨0,rfl,Z,zy⟩
 case round=>
  clear zy;obtain⟨j,rfl,hj,s⟩:=hrel;by_cases al:j<f
  ·have R:j<fD.length:=by have:=HM.j;omega
   have h1:(j:Int)<(f:Int):=Z;have gF:0<=(j:Int)/\(j:Int)<(f:Int):=Z;have xe:=Zf j Z;obtain⟨g,rfl⟩:=Ui.j Z
   have ko:wr.cell? (E g j)=some (O fD[j]):=by
    have:=s.j.nu.cell j 0 R I;have e:j*kN.sz+0=j:=by show j*1+0=j;omega
    rw[e] at this;exact this
   obtain⟨mP,n,S,T,rI,fq⟩:=CX.j _ (List.getElem_mem R);have GU:=Y (ahO (bY es) bs fD j R);have td:=aaZ (bY es) bs fD j R;generalize fD[j]=num at ko mP S T GU td;obtain⟨N,hN⟩:∃N:Nat,n=(N:Int):=⟨n.toNat,Z⟩
   subst hN;rw[Int.toNat_natCast] at T;rw[T] at GU td;have SR:=HX.j.quiet s.j.on;have c0:=SR.c0;have fZ:=(SR.look num mP).1;rw[IH S,Int.toNat_natCast] at fZ;have OK:=Y S;have dh:=Y td
   have zv:Hid (vX w ob (c,a) (Zs g f y) fD u5 (gE (lL (bY es) bs (fD.take j)++mG (bY es) num 0) (c,a)) wr):=by
    have e:mG (bY es) num 0=[]:=by simp[mG]
    rw[e,List.append_nil];exact s.j
   have ad:N<=64:=Z;clear S td SR s rI fq T mP
   go_wp2
   go_loopw [5,8,9,24] (λv _ _ d wx=>∃k:Nat,d=O (k:Int)/\k<=N/\Hid (vX w ob (c,a) (Zs g f y) fD v (gE (lL (bY es) bs (fD.take j)++mG (bY es) num k) (c,a)) wx)) (λ_ _ _ d _=>N - (RowKit.intOf d).toNat)
   case atStart=>exact⟨0,rfl,Z,zv⟩
   case round=>
    clear zv c0 fZ ko;obtain⟨k,rfl,hk,t⟩:=hrel;by_cases aa:k<N
    ·have h2:(k:Int)<(N:Int):=Z;have ag:0<=(k:Int)/\(k:Int)<(N:Int):=Z;have DT:=Zf k Z;obtain⟨c0,c1,c2,c3,c4,c5,c6,c7,c8,c9⟩:=(HX.j.quiet t.j.on).zP OK.j k h2;have i:=Y (IU (bY es (num,(k:Int))));have z:=P4 (bY es) num k
     have vh:Hid ((gE (lL (bY es) bs (fD.take j)++mG (bY es) num k) (c,a)).length+1<=10000000):=by
      have h3:=GU.j k hk;rw[X.j] at h3;have q:=j5.j;have h5:=ZO (lL (bY es) bs (fD.take j)++mG (bY es) num k) (c,a);show _+1<=10000000;omega
     unfold Gw at z;generalize hp:bY es (num,(k:Int))=p at c0 c1 c2 c3 c4 c5 c6 c7 c8 c9 i z;obtain⟨⟨d0,d1,d2,d3,d4,d5,d6,d7⟩,⟨f0,f1⟩⟩:=p;dsimp only at c0 c1 c2 c3 c4 c5 c6 c7 c8 c9 i z;have V:=Y z;have W:Hid (∀o,Zq wr (wr.alloc o)):=λo=>(H.refl _ wr).alloc o
     obtain⟨pv,cv,A,_⟩:=t.j.ow.form;obtain⟨m,hm⟩:=Ze ((gE (lL (bY es) bs (fD.take j)++mG (bY es) num k) (c,a)).length);rw[<-hm] at A;subst A;clear hp z aa hm;by_cases hz:d0=0
     ·subst hz;go_wp2_with fail;refine(i.j _).m ?_;rintro e B ⟨rfl,q⟩;have H4:=Y ((W.j (.cells #[O 0,O d1,O d2,J d3,J d4,O d5,O d6,J d7,O f0,O f1] 236)).trans q);clear q c0 c1 c2 c3 c4 c5 c6 c7 c8 c9 W i
      go_wp2
      go_roundw
      case rel=>
       refine⟨k+1,by go_num,Z,?_⟩;have:=t.j.quiet H4.j;rw[V.j]
       first|rw[if_pos rfl,List.append_nil]|rw[if_pos trivial,List.append_nil]
       exact this
      case measure=>exact Zm
     have jy:(d0 !=0)=true:=by simp[hz]
     rw[jy] at i;have HZ:=Y hz;go_wp2_with fail;refine(i.j _).m ?_;rintro e B ⟨rfl,q⟩;have Cl:=(W.j (.cells #[O d0,O d1,O d2,J d3,J d4,O d5,O d6,J d7,O f0,O f1] 236)).trans q
     have Q:B.heap[wr.heap.size]?=some (.cells #[O d0,O d1,O d2,J d3,J d4,O d5,O d6,J d7,O f0,O f1] 236 (0,0)):=by
      have h9:=heap_alloc_last wr (.cells #[O d0,O d1,O d2,J d3,J d4,O d5,O d6,J d7,O f0,O f1] 236);rw[q.block _ (aB h9) id];exact h9
     obtain⟨⟨n0,n1,n2,n3,n4,n5,n6,n7,n8,n9⟩,nf⟩:=ahq Q;have r:=Y (t.j.quiet Cl);have nh:Hid (w.heap.size<=B.heap.size):=r.j.on.size;obtain⟨q0,q1⟩:Zc B ob 0 (O c)/\Zc B ob 1 (O a):=⟨Zl r.j.o0,Zl r.j.o0⟩
     clear q c0 c1 c2 c3 c4 c5 c6 c7 c8 c9 W i Q Cl nf;obtain⟨nb,ZW⟩:=Ze (wr.heap.size);rw[<-ZW] at n0 n1 n2 n3 n4 n5 n6 n7 n8 n9|-;clear ZW;have HH:=Y (amg (lL (bY es) bs (fD.take j)++mG (bY es) num k) [⟨(num,(k:Int)),⟨d0,d1,d2,d3,d4,d5,d6,d7⟩,(f0,f1)⟩] (c,a));by_cases e1:d0=c
     ·subst e1;by_cases e2:d1=a
      ·subst e2
       have C:Hid (gE [⟨(num,(k:Int)),⟨d0,d1,d2,d3,d4,d5,d6,d7⟩,(f0,f1)⟩] (d0,d1)=[(num,(k:Int))]):=by
        show(List.map _ (List.filter (DY (d0,d1)) _))=_;rw[List.filter_cons_of_pos (show DY (d0,d1) ⟨(num,(k:Int)),⟨d0,d1,d2,d3,d4,d5,d6,d7⟩,(f0,f1)⟩=true from decide_eq_true ⟨rfl,rfl⟩)];rfl
       go_wp2_with (at_builtin;refine wH slK _ rfl _ _ rfl w.heap.size (.slice pv m cv) _ rfl r.j.ow (num,(k:Int)) _ _ rfl rfl rfl vh.j nh.j ?_;intro v' w5 cD bH iz;have bk:=Y (r.j.push cD bH);clear cD bH iz);go_roundw
       case rel=>
        refine⟨k+1,by go_num,Z,?_⟩;have:=bk.j;rw[V.j,if_neg HZ.j,<-List.append_assoc,HH.j,C.j];exact this
       case measure=>exact Zm
      have C:Hid (gE [⟨(num,(k:Int)),⟨d0,d1,d2,d3,d4,d5,d6,d7⟩,(f0,f1)⟩] (d0,a)=[]):=by
       show(List.map _ (List.filter (DY (d0,a)) _))=_;rw[List.filter_cons_of_neg (show¬DY (d0,a) ⟨(num,(k:Int)),⟨d0,d1,d2,d3,d4,d5,d6,d7⟩,(f0,f1)⟩=true from λh=>e2 (of_decide_eq_true h).2)];rfl
      have he:(d1==a)=false:=beq_eq_false_iff_ne.2 e2
      go_wp2
      go_roundw
      case rel=>
       refine⟨k+1,by go_num,Z,?_⟩;have:=r.j;rw[V.j,if_neg HZ.j,<-List.append_assoc,HH.j,C.j,List.append_nil];exact this
      case measure=>exact Zm
     have C:Hid (gE [⟨(num,(k:Int)),⟨d0,d1,d2,d3,d4,d5,d6,d7⟩,(f0,f1)⟩] (c,a)=[]):=by
      show(List.map _ (List.filter (DY (c,a)) _))=_;rw[List.filter_cons_of_neg (show¬DY (c,a) ⟨(num,(k:Int)),⟨d0,d1,d2,d3,d4,d5,d6,d7⟩,(f0,f1)⟩=true from λh=>e1 (of_decide_eq_true h).1)];rfl
     have he:(d0==c)=false:=beq_eq_false_iff_ne.2 e1
     go_wp2
     go_roundw
     case rel=>
      refine⟨k+1,by go_num,Z,?_⟩;have:=r.j;rw[V.j,if_neg HZ.j,<-List.append_assoc,HH.j,C.j,List.append_nil];exact this
     case measure=>exact Zm
    obtain rfl:k=N:=Z;have h2:¬(k:Int)<(k:Int):=Z
    have bk:Hid (vX w ob (c,a) (Zs g f y) fD u5 (gE (lL (bY es) bs (fD.take (j+1))) (c,a)) wr):=by
     have:=t.j;rw[<-dh.j] at this;exact this
    clear t
    go_wp2
    go_roundw
    case rel=>exact⟨j+1,by go_num,Z,bk⟩
    case measure=>exact Zm
  obtain rfl:j=f:=Z;have h1:¬(j:Int)<(j:Int):=Z
  have gz:Hid (vX w ob (c,a) (.slice np j y) fD u5 (gE es (c,a)) wr):=by
   have:=s.j;rw[HM.j,List.take_length,X.j,<-HM.j] at this;exact this
  clear s;obtain⟨pv,cv,A,_⟩:=gz.j.ow.form;generalize (gE es (c,a)).length=L at A;subst A
  go_wp2
  go_ret;exact⟨_,rfl,gz.j.ow,gz.j.on⟩
theorem Dp(h:w.heap[rc]?=some (.cells #[a0,a1] T (0,0))):(w.cell? (E rc 0)=some a0/\w.cell? (E rc 1)=some a1)/\∀j,w.frozen? (E rc j)=false:=
 ⟨⟨Zl h,Zl h⟩,λj=>by simp[World.frozen?,h]⟩
theorem alo(k w):Zk 119 #[O k] w λe w'=>Zr e (.bool (decide (1<=k/\k<=8)))/\w'=w:=by
 by_cases h1:1<=k
 ·by_cases b:k<=8
  ·have a:Hid (decide (1<=k/\k<=8)=true):=decide_eq_true ⟨h1,b⟩;rw[a.j];go_enter func119,ntmps119;go_wp2_with fail;all_goals
    go_ret;exact⟨by first|rfl|simp_all,rfl⟩
  have a:Hid (decide (1<=k/\k<=8)=false):=decide_eq_false (λh=>b h.2);rw[a.j];go_enter func119,ntmps119;go_wp2_with fail;all_goals
   go_ret;exact⟨by first|rfl|simp_all,rfl⟩
 have a:Hid (decide (1<=k/\k<=8)=false):=decide_eq_false (λh=>h1 h.1);rw[a.j];go_enter func119,ntmps119;go_wp2_with fail;all_goals
  go_ret;exact⟨by first|rfl|simp_all,rfl⟩
theorem WC(n)(a:0<=n)(h1:af n)(w):Zk 216 #[O n] w λe w'=>Zr e (.tuple #[O (n % 256),O (n/256)])/\w'=w:=by
 have⟨q,b⟩:=Ze (n/256:Int);have⟨r,hr⟩:=Ze (n % 256:Int);have e1:n.tdiv 256=q:=by rw[Int.tdiv_eq_ediv_of_nonneg a,b]
 have c:n.tmod 256=r:=by rw[Int.tmod_eq_emod_of_nonneg a,hr]
 unfold af at h1;have w1:=Zh q Z;rw[<-b,<-hr];clear b hr a h1;go_enter func216,ntmps216;go_wp2_with fail;all_goals
  go_ret2;exact⟨by first|rfl|simp[e1,c,w1,Zh r Z],rfl⟩
theorem Mq(a n)(hw:IntKind.i64.wrap (a+n)=a+n)(w):Zk 218 #[.agg #[O a,O n]] w λe w'=>Zr e (O (a+n))/\Zq w w':=by
 have b:Hid (∀o,Zq w (w.alloc o)):=λo=>(H.refl _ w).alloc _;go_enter func218,ntmps218;go_wp2_with fail;all_goals
  go_ret;exact⟨by first|rfl|simp[hw],b.j _⟩
theorem Qj(n)(hn:kB n)(w):Zk 217 #[O n] w λe w'=>Zr e (.agg #[O (ej (1,n)),O (eh (1,n))])/\Zq w w':=by
 have l:=Y (λo=>WC n hn.1 (by unfold kB at hn;unfold af;omega) o);have b:Hid (ej (1,n)=n % 256):=if_pos rfl;have c:Hid (eh (1,n)=((2^(n/256).toNat:Nat):Int)):=if_pos rfl;obtain⟨q,r,d,hr,t⟩:∃q r:Nat,n=256*q+r/\r<256/\q<=8:=⟨(n/256).toNat,(n % 256).toNat,by unfold kB at hn;omega,Z,by unfold kB at hn;omega⟩
 have f:n/256=(q:Int):=Z;have g:n % 256=(r:Int):=Z;rw[f,g] at l;rw[f,Int.toNat_natCast] at c;rw[g] at b;rw[b.j,c.j];clear d f g hn b c;obtain⟨w1,a⟩:=Ze (w.alloc (.cells #[O 0,O 0] 266));have m:=Za a;have h:w1.heap[w.heap.size]?=some (.cells #[O 0,O 0] 266 (0,0)):=by rw[a];exact heap_alloc_last _ _
 obtain⟨rc,i⟩:=Ze (w.heap.size);rw[<-i] at h;have j:Hid (Zq w w1/\w.heap.size<=rc):=⟨m,Z⟩
 have p:Hid (∀x y:Z3,Zq w ((w1.setCell (E rc 0) x).setCell (E rc 1) y)):=λx y=>H.setCell (H.setCell j.j.1 (Or.inr j.j.2) _) (Or.inr j.j.2) _
 obtain⟨⟨z0,s⟩,k⟩:=Dp h;have f0:=k 0;have f1:=k 1;clear k h m;rcases(by omega:q=0\/q=1\/q=2\/q=3\/q=4\/q=5\/q=6\/q=7\/q=8) with rfl|rfl|rfl|rfl|rfl|rfl|rfl|rfl|rfl
 all_goals
  go_enter func217,ntmps217;go_upto_region 1 with fail
  rw[<-a,<-i];clear a i;go_wp2_with fail;refine(l.j _).e1 ?_;go_wp2_with fail;refine bodyPost_ret (v:=.agg #[O (r:Int),O _]) ?_ rfl ⟨rfl,p.j _ _⟩;simp[results,results217,go_sem,z0,s]
theorem laid_two(w a0 a1 a b S T):∃w2,w2=(w.alloc (.cells #[a0,a1] S)).alloc (.cells #[a,b] T)/\Zq w w2/\∀wv,Zq w2 wv->(wv.cell? (E w.heap.size 0)=some a0/\wv.cell? (E w.heap.size 1)=some a1)/\wv.cell? ⟨w.heap.size+1,0,none⟩=some a/\wv.cell? ⟨w.heap.size+1,1,none⟩=some b:=by
 refine⟨_,rfl,((H.refl _ w).alloc _).alloc _,λwv c=>?_⟩;have h1:((w.alloc (.cells #[a0,a1] S)).alloc (.cells #[a,b] T)).heap[w.heap.size]?=some (.cells #[a0,a1] S (0,0)):=by
  rw[RowKit.Below.heap_alloc _ _ _ (by simp)];exact heap_alloc_last w _
 have d:((w.alloc (.cells #[a0,a1] S)).alloc (.cells #[a,b] T)).heap[w.heap.size+1]?=some (.cells #[a,b] T (0,0)):=by
  have:=heap_alloc_last (w.alloc (.cells #[a0,a1] S)) (.cells #[a,b] T);simpa using this
 exact⟨(Dp (H.keep c h1 id)).1,(Dp (H.keep c d id)).1⟩
theorem ahh(a n b m)(h1:IntKind.i64.wrap (b+m)=b+m)(U:IntKind.i64.wrap (a+n)=a+n)(w):Zk 219 #[.agg #[O a,O n],.agg #[O b,O m]] w λe w'=>Zr e (.bool (rz a n b m))/\Zq w w':=by
 have q:=Y (λc=>Mq b m h1 c);have Q:=Y (λc=>Mq a n U c);obtain⟨w2,r,V,l⟩:=laid_two w (O a) (O n) (O b) (O m) 266 266;have x:=Y V;obtain⟨A,o⟩:=Ze (w.heap.size);obtain⟨B,s⟩:=Ze (w.heap.size+1);rw[<-o] at l;have W:A+1=B:=Z;rw[W] at l;have j:Hid (∀c,Zq w2 c->Zc c A 0 (O a)/\Zc c A 1 (O n)/\Zc c B 0 (O b)/\Zc c B 1 (O m)):=λc h=>⟨(l c h).1.1,(l c h).1.2,(l c h).2.1,(l c h).2.2⟩
 clear V l W h1 U;obtain⟨D,R⟩:=Ze (b+m);obtain⟨F,S⟩:=Ze (a+n);have t:Hid (rz a n b m=decide (a<D/\b<F)):=by rw[R,S];exact rfl
 rw[<-R] at q;rw[<-S] at Q;clear R S;have p:Hid (Zq w2 w2.drew):=(H.refl _ w2).drew;have y:=Y (j.j _ p.j);have d:=p;have G:=y;have N:=y;by_cases g1:a<D
 ·have u:decide (a<D)=true:=decide_eq_true g1;by_cases g2:b<F
  ·have T:decide (b<F)=true:=decide_eq_true g2;have k:Hid (rz a n b m=true):=by show _=_;rw[t.j];exact decide_eq_true ⟨g1,g2⟩
   rw[k.j];clear t k;go_enter func219,ntmps219;go_upto_region 1 with fail
   rw[<-r,<-s,<-o];clear r o s;go_region_held3 (λc=>Zc c A 0 (O a)/\Zc c A 1 (O n)/\Zc c B 0 (O b)/\Zc c B 1 (O m)) (first|with_reducible exact y.j|with_reducible exact G.j|with_reducible exact N.j) (first|(go_at_call 218;refine(q.j _).m ?_;rintro e P ⟨rfl,g⟩;have d:=Y (p.j.trans g);clear g;have G:=Y (j.j _ d.j))|(go_at_call 218;refine(Q.j _).m ?_;rintro e X ⟨rfl,z⟩;have C:=Y (d.j.trans z);clear z;have N:=Y (j.j _ C.j)));go_wp2_with fail
   all_goals
    go_ret;exact⟨by first|rfl|simp[u,T],x.j.trans C.j⟩
  have T:decide (b<F)=false:=decide_eq_false g2;have k:Hid (rz a n b m=false):=by show _=_;rw[t.j];exact decide_eq_false (λh=>g2 h.2)
  rw[k.j];clear t k;go_enter func219,ntmps219;go_upto_region 1 with fail
  rw[<-r,<-s,<-o];clear r o s;go_region_held3 (λc=>Zc c A 0 (O a)/\Zc c A 1 (O n)/\Zc c B 0 (O b)/\Zc c B 1 (O m)) (first|with_reducible exact y.j|with_reducible exact G.j|with_reducible exact N.j) (first|(go_at_call 218;refine(q.j _).m ?_;rintro e P ⟨rfl,g⟩;have d:=Y (p.j.trans g);clear g;have G:=Y (j.j _ d.j))|(go_at_call 218;refine(Q.j _).m ?_;rintro e X ⟨rfl,z⟩;have C:=Y (d.j.trans z);clear z;have N:=Y (j.j _ C.j)));go_wp2_with fail
  all_goals
   go_ret;exact⟨by first|rfl|simp[u,T],x.j.trans C.j⟩
 have u:decide (a<D)=false:=decide_eq_false g1;have k:Hid (rz a n b m=false):=by show _=_;rw[t.j];exact decide_eq_false (λh=>g1 h.1)
 rw[k.j];clear t k;go_enter func219,ntmps219;go_upto_region 1 with fail
 rw[<-r,<-s,<-o];clear r o s;obtain⟨a0,a1,b0,b1⟩:=y.j;refine wp_region_any Zx ?_
 try (change wpAny _ _ _ _ _ _ _ (World.drew _))
 refine wpAny_take (i:=0) (v:=?_) rfl Zx Zx Zx (λ_ _ _ h=>h) (Or.inl ⟨by rfl,?_⟩) ?_
 rotate_left
 ·intro w;go_simp
  try with_reducible rfl
 rotate_left
 refine wpAny_ready (rs:=[1,2]) Zx (by simp) ?_;refine(AllReady.cons rfl (λK f=>?_) (AllReady.cons rfl (λK f=>?_) AllReady.nil))
 ·go_simp;refine f _ _ ?_;refine wpAny_ready (rs:=[2]) Zx (by simp) ?_;refine(AllReady.cons rfl (λK f=>?_) AllReady.nil);go_simp;refine f _ _ ?_;refine wpAny_ready (rs:=[3]) Zx (by simp) ?_;refine(AllReady.cons rfl (λK f=>?_) AllReady.nil);go_simp;refine(q.j _).m ?_;rintro e P ⟨rfl,g⟩;have d:=Y (p.j.trans g);clear g;obtain⟨c0,c1,d0,d1⟩:=j.j _ d.j;go_simp;refine f _ _ ?_;refine wpAny_take (i:=4) (v:=?_) rfl Zx Zx Zx (λ_ _ _ h=>h) (Or.inl ⟨by rfl,?_⟩) ?_
  rotate_left
  ·intro w;go_simp
   try with_reducible rfl
  rotate_left
  refine wpAny_take (i:=5) (v:=?_) rfl Zx Zx Zx (λ_ _ _ h=>h) (Or.inl ⟨by rfl,?_⟩) ?_
  rotate_left
  ·intro w;go_simp
   try with_reducible rfl
  rotate_left
  refine wpAny_take (i:=6) (v:=undef) rfl Zx Zx Zx (λ_ _ _ h=>h) (Or.inr ⟨by rfl,rfl⟩) ?_;refine wpAny_take (i:=7) (v:=undef) rfl Zx Zx Zx (λ_ _ _ h=>h) (Or.inr ⟨by rfl,rfl⟩) ?_;refine wpAny_take (i:=8) (v:=undef) rfl Zx Zx Zx (λ_ _ _ h=>h) (Or.inr ⟨by rfl,rfl⟩) ?_;refine wpAny_take (i:=9) (v:=undef) rfl Zx Zx Zx (λ_ _ _ h=>h) (Or.inr ⟨by rfl,rfl⟩) ?_;refine wpAny_take (i:=10) (v:=undef) rfl Zx Zx Zx (λ_ _ _ h=>h) (Or.inr ⟨by rfl,rfl⟩) ?_;refine wpAny_take (i:=11) (v:=?_) rfl Zx Zx Zx (λ_ _ _ h=>h) (Or.inl ⟨by rfl,?_⟩) ?_
  rotate_left
  ·intro w;go_simp
   try with_reducible rfl
  rotate_left
  refine wpAny_take (i:=12) (v:=?_) rfl Zx Zx Zx (λ_ _ _ h=>h) (Or.inl ⟨by rfl,?_⟩) ?_
  rotate_left
  ·intro w;go_simp
   try with_reducible rfl
  rotate_left
  refine wpAny_done Zx ?_ _
  go_wp2
  go_ret;exact⟨by first|rfl|simp[u],x.j.trans d.j⟩
 go_simp;refine f _ _ ?_;refine wpAny_ready (rs:=[1,3]) Zx (by simp) ?_;refine(AllReady.cons rfl (λK f=>?_) (AllReady.cons rfl (λK f=>?_) AllReady.nil))
 ·go_simp;refine f _ _ ?_;refine wpAny_ready (rs:=[3]) Zx (by simp) ?_;refine(AllReady.cons rfl (λK f=>?_) AllReady.nil);go_simp;refine(q.j _).m ?_;rintro e P ⟨rfl,g⟩;have d:=Y (p.j.trans g);clear g;obtain⟨c0,c1,d0,d1⟩:=j.j _ d.j;go_simp;refine f _ _ ?_;refine wpAny_take (i:=4) (v:=?_) rfl Zx Zx Zx (λ_ _ _ h=>h) (Or.inl ⟨by rfl,?_⟩) ?_
  rotate_left
  ·intro w;go_simp
   try with_reducible rfl
  rotate_left
  refine wpAny_take (i:=5) (v:=?_) rfl Zx Zx Zx (λ_ _ _ h=>h) (Or.inl ⟨by rfl,?_⟩) ?_
  rotate_left
  ·intro w;go_simp
   try with_reducible rfl
  rotate_left
  refine wpAny_take (i:=6) (v:=undef) rfl Zx Zx Zx (λ_ _ _ h=>h) (Or.inr ⟨by rfl,rfl⟩) ?_;refine wpAny_take (i:=7) (v:=undef) rfl Zx Zx Zx (λ_ _ _ h=>h) (Or.inr ⟨by rfl,rfl⟩) ?_;refine wpAny_take (i:=8) (v:=undef) rfl Zx Zx Zx (λ_ _ _ h=>h) (Or.inr ⟨by rfl,rfl⟩) ?_;refine wpAny_take (i:=9) (v:=undef) rfl Zx Zx Zx (λ_ _ _ h=>h) (Or.inr ⟨by rfl,rfl⟩) ?_;refine wpAny_take (i:=10) (v:=undef) rfl Zx Zx Zx (λ_ _ _ h=>h) (Or.inr ⟨by rfl,rfl⟩) ?_;refine wpAny_take (i:=11) (v:=?_) rfl Zx Zx Zx (λ_ _ _ h=>h) (Or.inl ⟨by rfl,?_⟩) ?_
  rotate_left
  ·intro w;go_simp
   try with_reducible rfl
  rotate_left
  refine wpAny_take (i:=12) (v:=?_) rfl Zx Zx Zx (λ_ _ _ h=>h) (Or.inl ⟨by rfl,?_⟩) ?_
  rotate_left
  ·intro w;go_simp
   try with_reducible rfl
  rotate_left
  refine wpAny_done Zx ?_ _
  go_wp2
  go_ret;exact⟨by first|rfl|simp[u],x.j.trans d.j⟩
 go_simp;refine(q.j _).m ?_;rintro e P ⟨rfl,g⟩;have d:=Y (p.j.trans g);clear g;obtain⟨c0,c1,d0,d1⟩:=j.j _ d.j;go_simp;refine f _ _ ?_;refine wpAny_ready (rs:=[1]) Zx (by simp) ?_;refine(AllReady.cons rfl (λK f=>?_) AllReady.nil);go_simp;refine f _ _ ?_;refine wpAny_take (i:=4) (v:=?_) rfl Zx Zx Zx (λ_ _ _ h=>h) (Or.inl ⟨by rfl,?_⟩) ?_
 rotate_left
 ·intro w;go_simp
  try with_reducible rfl
 rotate_left
 refine wpAny_take (i:=5) (v:=?_) rfl Zx Zx Zx (λ_ _ _ h=>h) (Or.inl ⟨by rfl,?_⟩) ?_
 rotate_left
 ·intro w;go_simp
  try with_reducible rfl
 rotate_left
 refine wpAny_take (i:=6) (v:=undef) rfl Zx Zx Zx (λ_ _ _ h=>h) (Or.inr ⟨by rfl,rfl⟩) ?_;refine wpAny_take (i:=7) (v:=undef) rfl Zx Zx Zx (λ_ _ _ h=>h) (Or.inr ⟨by rfl,rfl⟩) ?_;refine wpAny_take (i:=8) (v:=undef) rfl Zx Zx Zx (λ_ _ _ h=>h) (Or.inr ⟨by rfl,rfl⟩) ?_;refine wpAny_take (i:=9) (v:=undef) rfl Zx Zx Zx (λ_ _ _ h=>h) (Or.inr ⟨by rfl,rfl⟩) ?_;refine wpAny_take (i:=10) (v:=undef) rfl Zx Zx Zx (λ_ _ _ h=>h) (Or.inr ⟨by rfl,rfl⟩) ?_;refine wpAny_take (i:=11) (v:=?_) rfl Zx Zx Zx (λ_ _ _ h=>h) (Or.inl ⟨by rfl,?_⟩) ?_
 rotate_left
 ·intro w;go_simp
  try with_reducible rfl
 rotate_left
 refine wpAny_take (i:=12) (v:=?_) rfl Zx Zx Zx (λ_ _ _ h=>h) (Or.inl ⟨by rfl,?_⟩) ?_
 rotate_left
 ·intro w;go_simp
  try with_reducible rfl
 rotate_left
 refine wpAny_done Zx ?_ _
 go_wp2
 go_ret;exact⟨by first|rfl|simp[u],x.j.trans d.j⟩
theorem ahE(k n w):Zk 284 #[.agg #[O k,O n]] w λe w'=>Zr e (.bool (k !=0))/\Zq w w':=by
 go_enter func284,ntmps284;go_wp2_with fail;all_goals
  go_ret;exact⟨by first|rfl|simp_all,(H.refl _ _).alloc _⟩
theorem dw.ahW(h:dw U w xb mb gb D N os rs)(a k)(hk:a+k<N):w.cell? (E gb (a*2+k*2))=some (O (jg os ((a+k:Nat):Int)).1)/\w.cell? (E gb (a*2+k*2+1))=some (O (jg os ((a+k:Nat):Int)).2):=by
 have:=h.It (a+k) hk;rwa[Nat.add_mul] at this
theorem ahF(h:dw U w xb mb gb D N os rs)(hN:N<=256)(a m c)(t:a+m<=N)(x:m<=c)(y:c<=256):Zk 324 #[.slice (some (E gb (a*2))) m c,.func (.func 284) #[] #[]] w λe w'=>∃r:Int,Zr e (O r)/\(0<=r↔∃k:Nat,k<m/\(jg os ((a+k:Nat):Int)).1≠0)/\Zq w w':=by
 have hm:m<=256:=Z;go_enter func324,ntmps324;go_wp2;go_loopw [5,8] (λ_ d wr=>∃k:Nat,d=O (k:Int)/\k<=m/\Hid (∀j:Nat,j<k->(jg os ((a+j:Nat):Int)).1=0)/\Hid (Zq w wr)) (λ_ d _=>m - (RowKit.intOf d).toNat)
 case atStart=>exact⟨0,rfl,Z,λj g=>absurd g (Nat.not_lt_zero _),H.refl _ _⟩
 case round=>
  obtain⟨k,rfl,hk,q,f⟩:=hrel;by_cases z:k<m
  ·have h1:(k:Int)<(m:Int):=Z;have A:0<=(k:Int)/\(k:Int)<(m:Int):=Z;have B:=Zf k Z;have⟨c0,c1⟩:=((Y h).j.quiet f.j).ahW a k (by have:=(Y t).j;omega);have b:=Y (λu=>ahE (jg os ((a+k:Nat):Int)).1 (jg os ((a+k:Nat):Int)).2 u);generalize hp:jg os ((a+k:Nat):Int)=p at c0 c1 b;have⟨d0,d1⟩:=p;dsimp only at c0 c1 b;have s:=Y hp;by_cases i:d0=0
   ·subst i;have l:((0:Int) !=0)=false:=I;rw[l] at b;go_wp2_with fail;refine(b.j _).m ?_;rintro e w3 ⟨rfl,n⟩;have o:=Y (f.j.trans n);go_wp2;go_roundw
    case rel=>
     refine⟨k+1,by go_num,Z,(show∀j:Nat,j<k+1->(jg os ((a+j:Nat):Int)).1=0 from λj g=>?_),o⟩;by_cases e:j=k
     ·subst e;rw[s.j]
     exact q.j j Z
    case measure=>exact Zm
   have l:(d0 !=0)=true:=by simp[i]
   rw[l] at b;go_wp2_with fail;refine(b.j _).m ?_;rintro e w3 ⟨rfl,n⟩;have o:=Y (f.j.trans n);go_wp2;go_ret;exact⟨(k:Int),rfl,⟨λ_=>⟨k,Z,s.j▸i⟩,λ_=>Z⟩,o.j⟩
  obtain rfl:k=m:=Z;have h1:¬(k:Int)<(k:Int):=Z;go_wp2;go_ret;refine⟨-1,rfl,⟨λh=>Z,λ⟨j,g,v⟩=>absurd (q.j j Z) v⟩,f.j⟩
theorem ahK(h:dw U w xb mb gb D N os rs)(hN:N<=256)(a m c)(f:a+m<=N)(g:m<=c)(i:c<=256):Zk 283 #[.slice (some (E gb (a*2))) m c,.func (.func 284) #[] #[]] w λe w'=>∃r:Bool,Zr e (.bool r)/\(r=true↔∃k:Nat,k<m/\(jg os ((a+k:Nat):Int)).1≠0)/\Zq w w':=by
 go_enter func283,ntmps283;go_wp2_with fail;refine (Y (ahF h hN a m c f g i)).j.m ?_;rintro e w2 ⟨r,rfl,h1,b⟩;have H1:=Y h1;have d:=Y b;clear h1 b;by_cases hr:0<=r
 ·go_wp2;go_ret;exact⟨true,by first|rfl|simp[hr],⟨λ_=>H1.j.1 hr,λ_=>rfl⟩,d.j⟩
 go_wp2;go_ret;exact⟨false,by first|rfl|simp[hr],⟨λh=>(by cases h),λh=>absurd (H1.j.2 h) Z⟩,d.j⟩
def uy(os:Lp)(a n:Int):Bool:=os.any (λo=>decide (a<=o.2/\o.2<a+n))
theorem alK(hw:ie P os rs)(a m:Nat):uy os (a:Int) (m:Int)=true↔∃k:Nat,k<m/\(jg os ((a+k:Nat):Int)).1≠0:=by
 unfold uy;rw[List.any_eq_true];constructor
 ·rintro⟨o,b,c⟩;have h1:=of_decide_eq_true c;refine⟨o.2.toNat - a,Z,(WQ hw _).2 ⟨o,b,Z⟩⟩
 rintro⟨k,hk,d⟩;have⟨o,b,he⟩:=(WQ hw _).1 d;exact⟨o,b,decide_eq_true Z⟩
theorem ahJ(g b a m:Nat)(hm:0<m)(h:a+m<=b):∀wv,(Instr.slice 210 (Zs g b b) (some (O (a:Int))) (some (O ((a:Int)+(m:Int)))) none).run prog wv=.ok (.slice (some (E g (a*2))) m (b - a)) wv:=by
 have ht:prog.underlying 210=some (.slice (prog.elem 210)):=Zx;have c:∀wv,(sizeOf (prog.elem 210)).run prog wv=.ok 2 wv:=by
  have he:prog.elem 210=71:=Zx;rw[he];have⟨k,z,h1,_,d,_⟩:=obK.hi;intro wv;have e:k.size=2:=d;simp[sizeOf,typeInfo,h1,e]
 intro wv;rw[run_slice_lh wv 210 (some (E g 0)) b b ht .i64 .i64 (a:Int) ((a:Int)+(m:Int)) Z Z Z,c];have e1:((a:Int)+(m:Int)).toNat=a+m:=Z;have f:a+m - a=m:=Z;have i:¬b=a:=Z;rw[e1,Int.toNat_natCast];simp[sliced,Result.andThen,addr_add,f,i]
theorem ahI(h:dw U w xb mb gb D N os rs)(hw:ie (N:Int) os rs)(a m)(hm:0<m)(i:a+m<=N):Zk 220 #[M xb,.agg #[O (a:Int),O (m:Int)]] w λe w'=>Zr e (.bool (uy os (a:Int) (m:Int)))/\Zq w w':=by
 have hN:N<=256:=by have:=hw.p;omega
 have o:=Y (λc=>Mq (a:Int) (m:Int) (by rw[IntKind.wrap_i64];omega) c);have hcut:=ahJ gb N a m hm i;have p:Hid (∀c,dw U c xb mb gb D N os rs->Zk 283 #[.slice (some (E gb (a*2))) m (N - a),.func (.func 284) #[] #[]] c λe w'=>Zr e (.bool (uy os (a:Int) (m:Int)))/\Zq c w'):=λc hv=>by
  refine(ahK hv hN a m (N - a) i Z Z).m ?_;rintro e w' ⟨r,rfl,h1,B⟩;refine⟨?_,B⟩;have q:=alK hw a m;have C:r=uy os (a:Int) (m:Int):=by
   cases hr:r with
   |true=>exact(q.2 (h1.1 hr)).symm
   |false=>
    cases hb:uy os (a:Int) (m:Int) with
    |false=>rfl
    |true=>have:=h1.2 (q.1 hb);rw[hr] at this;cases this
  rw[C]
 have⟨b,hb⟩:=Ze (uy os (a:Int) (m:Int));rw[<-hb] at p|-;obtain⟨Q,s⟩:=Ze ((a:Int)+(m:Int));rw[<-s] at o hcut;obtain⟨w1,d⟩:=Ze (w.alloc (.cells #[O (a:Int),O (m:Int)] 266));have f:=Za d;obtain⟨A,j⟩:=Ze (w.heap.size);have t:w1.heap[A]?=some (.cells #[O (a:Int),O (m:Int)] 266 (0,0)):=d▸j▸heap_alloc_last _ _
 have k:Hid (∀c,Zq w1 c->c.cell? (E A 0)=some (O (a:Int))/\c.cell? (E A 1)=some (O (m:Int))/\c.cell? (E xb 1)=some (Zs gb N N)):=λc hv=>by
  have⟨F,G⟩:=(Dp (H.keep hv t id)).1;exact⟨F,G,((h.quiet f).quiet hv).c1⟩
 have K:=Y (h.quiet f);have P:=Y f;clear h hw hb s f t i hm hN;have l:Hid (Zq w1 w1.drew):=(H.refl _ w1).drew;have n:=Y (k.j _ l.j);have g:=l;have u:=n;have v:=n;go_enter func220,ntmps220;go_upto_region 1 with fail
 rw[<-d,<-j];clear d j;go_region_held3 (λc=>Zc c A 0 (O (a:Int))/\Zc c A 1 (O (m:Int))/\Zc c xb 1 (Zs gb N N)) (first|with_reducible exact n.j|with_reducible exact u.j|with_reducible exact v.j) (first|(go_at_call 218;refine(o.j _).m ?_;rintro e R ⟨rfl,x⟩;have g:=Y (l.j.trans x);clear x;have u:=Y (k.j _ g.j))|(go_at_call 283;refine(p.j _ (K.j.quiet g.j)).m ?_;rintro e S ⟨rfl,y⟩;have z:=Y (g.j.trans y);clear y;have v:=Y (k.j _ z.j)));go_wp2_with fail;all_goals
  go_ret;exact⟨rfl,P.j.trans z.j⟩
structure uX(U:Z1)(w:Z0)(xb mb gb r:Nat)(D:DataW Value)(N:Nat)(os rs:Lp)(left:Lit->Bool)(fG:Nat)(wr:Z0):Prop where
 rg:wr.ranges prog 3 RI mb r rs.length D left fG
 xq:dw U wr xb mb gb D N os rs
 hr:w.heap.size<=r
 on:Zq w wr
theorem uX.quiet(h:uX U w xb mb gb r D N os rs left fG wr)(a:Zq wr wx):uX U w xb mb gb r D N os rs left fG wx:=
 ⟨ajb h.rg a id id,h.xq.quiet a,h.hr,h.on.trans a⟩
section
variable {vS:Nat}{FN:Lit->Bool}
theorem uX.next(h:uX U w xb mb gb r D N os rs left fG wr)(hr:wx.ranges prog 3 RI mb r rs.length D FN vS)(hg:wr.grownBy wx (some r)):uX U w xb mb gb r D N os rs FN vS wx:=by
 have a:=QP hg;have⟨cur,b⟩:=cW h.xq.pg (k:=gb) rfl;exact⟨hr,h.xq.aside a (λe=>XI h.rg h.xq.x e.symm) (λe=>h.rg.ne e.symm) (λe=>XI h.rg b e.symm) h.xq.ux h.xq.um h.xq.ug (λk hk=>Nat.lt_of_lt_of_le (h.xq.low k hk) a.size),h.hr,H.Mu h.on a h.hr⟩
end
theorem uX.key(h:uX U w xb mb gb r D N os rs left fG wr){x:Int}(b:keyOf prog 3 (.int .i64 x)=some kl)(c:∀d,D.atKey kl d=y):af x/\kl=.int .i64 x/\x∈rs.map (·.1):=by
 obtain⟨e,ex,rfl,hw⟩:=Maps.keyOf_i64 underlying3 b;obtain rfl:x=e:=by injection ex
 have hi:=Hr hw;have a:=Maps.has_true_of_atKey c;rw[h.xq.hs x hi] at a;exact⟨hi,rfl,QQ a⟩
theorem uX.akb(h:dw U w xb mb gb D N os rs)(hi:∀r∈rs,af r.1)(f:Int->Bool):∀x∈rs.map (·.1),Maps.has D (.int .i64 x)=false->f x=false:=λx b a=>by
 obtain⟨r,hr,rfl⟩:=List.mem_map.1 b;rw[h.hs _ (hi r hr)] at a;obtain⟨i,c⟩:=Mh b;rw[c] at a;cases a
theorem afK{f:Int->Bool}{x:Int}(hs:∀y∈rs.map (·.1),left (.int .i64 y)=false->f y=false)(b:f x=false):∀y∈rs.map (·.1),Fe left x (.int .i64 y)=false->f y=false:=λy hy a=>by
 rw[VA] at a;by_cases he:y=x
 ·rw[he];exact b
 have c:decide (y=x)=false:=decide_eq_false he;rw[c] at a;simp only[Bool.not_false,Bool.and_true] at a;exact hs y hy a
theorem afL{f:Int->Bool}(hs:∀y∈rs.map (·.1),left (.int .i64 y)=false->f y=false)(a:∀kl,left kl=false):rs.any (λr=>f r.1)=false:=by
 rw[List.any_eq_false];intro r hr;rw[hs r.1 (List.mem_map.2 ⟨r,hr,rfl⟩) (a _)];decide
theorem V7{f:Int->Bool}{x:Int}(a:x∈rs.map (·.1))(hf:f x=true):rs.any (λr=>f r.1)=true:=by
 obtain⟨r,hr,rfl⟩:=List.mem_map.1 a;exact List.any_eq_true.2 ⟨r,hr,hf⟩
theorem ago(v y)(h:RI v=some y):∃c,v=Value.int .i64 c:=by
 have⟨a,ha,_⟩:=Wk h;exact⟨a,ha⟩
theorem X9(key kl)(hk:keyOf prog 3 key=some kl):∃x,key=Value.int .i64 x:=by
 have⟨x,a,_⟩:=Maps.keyOf_i64 underlying3 hk;exact⟨x,a⟩
def DH(a m n:Int):Bool:=rz (ej (1,n)) (eh (1,n)) a m
def wI(os rs:Lp)(a m:Int):Bool:=rs.any (λr=>DH a m r.1) || uy os a m
theorem P8(h:kB n):0<=ej (1,n)/\ej (1,n)<256/\1<=eh (1,n)/\eh (1,n)<=256:=⟨(Qr rfl).1,(Qr rfl).2,(Qp (λ_=>h)).1,(Qp (λ_=>h)).2⟩
theorem ah9(h:dw U w xb mb gb D N os rs)(hw:ie (N:Int) os rs)(a m)(hm:0<m)(T:a+m<=N):Zk 121 #[M xb,.agg #[.int .i64 (a:Int),.int .i64 (m:Int)]] w λe w'=>Zr e (.bool (wI os rs (a:Int) (m:Int)))/\Zq w w':=by
 have hN:N<=256:=by have:=hw.p;omega
 have V:=Zh ((a:Int)+(m:Int)) Z;have CR:Hid (∀x∈rs.map (·.1),kB x):=λx hx=>by
  obtain⟨r,hr,rfl⟩:=List.mem_map.1 hx;exact(hw.rk r hr).1
 have W:Hid (∀n,kB n->∀b,Zk 219 #[.agg #[.int .i64 (ej (1,n)),.int .i64 (eh (1,n))],.agg #[.int .i64 (a:Int),.int .i64 (m:Int)]] b λe w'=>Zr e (.bool (DH (a:Int) (m:Int) n))/\Zq b w'):=λn hn b=>by
  have:=P8 hn;exact ahh _ _ _ _ V (by rw[IntKind.wrap_i64];omega) b
 have X:=Y (λb(hv:dw U b xb mb gb D N os rs)=>ahI hv hw a m hm T);have g:Hid (wI os rs (a:Int) (m:Int)=(rs.any (λr=>DH (a:Int) (m:Int) r.1) || uy os (a:Int) (m:Int))):=rfl;have⟨f,hf⟩:=Ze (DH (a:Int) (m:Int));have⟨ib,Nr⟩:=Ze (uy os (a:Int) (m:Int));have⟨tb,dk⟩:=Ze (wI os rs (a:Int) (m:Int));rw[<-hf] at W g;rw[<-Nr] at X g;rw[<-dk] at g|-;clear hf Nr dk V hm T hN;obtain⟨w1,o⟩:=Ze (w.alloc (.cells #[.int .i64 (a:Int),.int .i64 (m:Int)] 266));have ar:=Za o;obtain⟨A,s⟩:=Ze (w.heap.size);have hz:w1.heap[A]?=some (.cells #[.int .i64 (a:Int),.int .i64 (m:Int)] 266 (0,0)):=by rw[o,s];exact heap_alloc_last _ _
 have t:=h.quiet ar;have c0:=t.c0;have HS:Hid (∀w2 r,w2.ranges prog 3 RI mb r rs.length D (Maps.has D) (Maps.size D)->w1.grownBy w2 none->w1.heap.size<=r->uX U w1 xb mb gb r D N os rs (Maps.has D) (Maps.size D) w2):=λw2 r hr hg hle=>⟨hr,t.quiet (QN hg),hle,QN hg⟩;have u:=Y (uX.akb h (λr hr=>by have:=(hw.rk r hr).1;unfold kB at this;unfold af;omega) f);have p:=Y (λb(hv:Zq w1 b)=>(Dp (H.keep hv hz id)).1);have xW:=Y t;have qT:=Y ar;go_enter func121,ntmps121;go_upto_region 1 with fail
 rw[<-o,<-s];clear o s;go_wp2_with (at_range;refine wpList_range_own _ rfl _ 209 rfl 3 3 ry underlying209 RI mb rs.length D rfl xW.j.m ?_;intro w2 yQ i v;have zv:=Y (HS.j w2 _ yQ i (Nat.le_refl _));clear yQ i v);have⟨r,hr⟩:=Ze (w1.heap.size);rw[<-hr] at zv|-;clear hr c0 HS xW
 go_frame;go_loopw [5,11,12] (λ_ _ _ wr=>∃left fG,Hid (uX U w1 xb mb gb r D N os rs left fG wr)/\Hid (∀x∈rs.map (·.1),left (.int .i64 x)=false->f x=false)) (λ_ _ _ wr=>wr.rangeLeft mb r)
 case atStart=>exact⟨_,_,zv,u⟩
 case round=>
  have⟨left,fG,d,HL⟩:=hrel;go_wp2_with (at_next;refine wpList_next_ranges _ rfl _ rfl 3 ry RI (Value.int .i64) (Value.int .i64) X9 ago mb r rs.length D left fG rfl d.j.rg ?_ ?_)
  ·intro kU oN;have z:Hid (tb=ib):=by show _=_;rw[g.j,afL HL.j oN];rfl
   have⟨q0,q1⟩:=p.j _ d.j.on;go_wp2_with fail;refine(X.j _ d.j.xq).m ?_;rintro e w3 ⟨rfl,h3⟩;have H3:=Y (qT.j.trans (d.j.on.trans h3));go_wp2_with fail;all_goals
    go_ret;exact⟨by rw[z.j];try rfl,H3.j⟩
  intro x c kl y yp w3 B tm fZ hv fR I5 al i v rQ;obtain⟨vL,rfl,C⟩:=d.j.key tm fR;have F:=Y C;have j:=Y (CR.j x C);have lV:Hid (wr.rangeLeft mb r=fG/\B<fG):=⟨d.j.rg.left_eq,al⟩;have k:Hid (uX U w1 xb mb gb r D N os rs (Fe left x) B w3):=d.j.next I5 i;have G:=Y (λb=>Qj x j.j b);have q:=Y (λb=>W.j x j.j b);generalize ej (1,x)=xa at G q;generalize eh (1,x)=xn at G q;obtain⟨fx,K⟩:=Ze (f x);rw[<-K] at q;have l:=Y K;clear tm fZ hv fR I5 al i v vL C d K;have P:Hid (Zq w3 w3.drew):=(H.refl _ w3).drew;have Q:=Y (p.j _ (k.j.on.trans P.j));have R:=P;have aK:=Q;have aZ:=Q;go_upto_region 4 with fail
  go_region_held3 (λb=>Zc b A 0 (.int .i64 (a:Int))/\Zc b A 1 (.int .i64 (m:Int))) (first|with_reducible exact Q.j|with_reducible exact aK.j|with_reducible exact aZ.j) (first|(go_at_call 217;refine(G.j _).m ?_;rintro e w4 ⟨rfl,eF⟩;have R:=Y (P.j.trans eF);clear eF;have aK:=Y (p.j _ (k.j.on.trans R.j)))|(go_at_call 219;refine(q.j _).m ?_;rintro e w5 ⟨rfl,iA⟩;have S:=Y (R.j.trans iA);clear iA;have aZ:=Y (p.j _ (k.j.on.trans S.j))));clear rQ
  cases fx with
  |true=>
   have z:Hid (tb=true):=by show _=_;rw[g.j,V7 F.j l.j.symm];rfl
   go_wp2_with fail
   all_goals
    go_ret
    exact⟨by rw[z.j];try rfl,qT.j.trans (k.j.on.trans S.j)⟩
  |false=>
   have KW:=Y (k.j.quiet S.j);have OO:=Y (afK HL.j l.j.symm)
   go_wp2
   go_roundw
   case rel=>exact⟨_,B,KW,OO⟩
   case measure=>rw[lV.j.1,KW.j.rg.left_eq];exact lV.j.2
theorem ajm(a n b m):rz a n b m=rz b m a n:=by
 unfold rz;rw[decide_eq_decide];omega
theorem FF(w x y T):∃a,a=w.alloc (.cells #[x,y] T)/\Zq w a/\∀wv,Zq a wv->wv.cell? (E w.heap.size 0)=some x/\wv.cell? (E w.heap.size 1)=some y:=
 ⟨_,rfl,(H.refl _ w).alloc _,λwv hv=>(Dp (H.keep hv (heap_alloc_last w _) id)).1⟩
theorem ahi(h:dw U w xb mb gb D N os rs)(n)(hn:af n):Zk 127 #[M xb,.int .i64 n] w λe w'=>Zr e (.tuple #[.int .i64 (nE rs n).1,.int .i64 (nE rs n).2])/\Zq w w':=by
 have a:=h.look n hn;have c0:=h.c0;cases hi:sK rs n with
 |none=>
  have b:nE rs n=(0,6):=by unfold nE;rw[hi]
  rw[b,hi] at a;rw[b];have c:=a;go_enter func127,ntmps127;go_wp2_with fail;all_goals
   go_ret2;exact⟨rfl,H.refl _ _⟩
 |some i=>
  have b:nE rs n=((rs.getD i (0,0)).2,0):=by unfold nE;rw[hi]
  rw[b,hi] at a;rw[b];dsimp only at a|-;generalize (rs.getD i (0,0)).2=mk at a|-;have c:(Instr.lookup 209 (.map (some mb)) (.int .i64 n) true).run prog w=.ok (.tuple #[.int .i64 mk,.bool true]) w:=a;clear h a hi b hn;go_enter func127,ntmps127;go_wp2_with fail
  all_goals
   go_ret2;exact⟨rfl,H.refl _ _⟩
theorem ahL(h:dw U w xb mb gb D N os rs)(q):Zk 129 #[M xb,.int .i64 q] w λe w'=>Zr e (.tuple #[.agg #[.int .i64 (atR (N:Int) os q).1.1,.int .i64 (atR (N:Int) os q).1.2],.int .i64 (atR (N:Int) os q).2])/\Zq w w':=by
 have⟨w1,a⟩:=Ze (w.alloc (.cells #[.int .i64 0,.int .i64 0] 71));have j:=Za a;have l:w1.heap[w.heap.size]?=some (.cells #[.int .i64 0,.int .i64 0] 71 (0,0)):=a▸heap_alloc_last _ _
 have⟨rc,b⟩:=Ze (w.heap.size);rw[<-b] at l;have d:Hid (Zq w w1/\w.heap.size<=rc):=⟨j,Z⟩;have f:Hid (∀x y:Z3,Zq w ((w1.setCell (E rc 0) x).setCell (E rc 1) y)):=λx y=>H.setCell (H.setCell d.j.1 (Or.inr d.j.2) _) (Or.inr d.j.2) _;have⟨⟨z0,g⟩,m⟩:=aiy l;have f0:=m 0;have f1:=m 1;have hk:=h.quiet j;have c1:=hk.c1;by_cases h1:q<0
 ·have c:Hid (atR (N:Int) os q=((0,0),1)):=if_pos (Or.inl h1);go_enter func129,ntmps129;go_upto_region 1 with fail
  rw[<-a,<-b];clear a b;go_wp2_with fail;refine bodyPost_ret (v:=.tuple #[.agg #[.int .i64 0,.int .i64 0],.int .i64 1]) ?_ rfl ⟨by rw[c.j],f.j _ _⟩;simp[results,results129,go_sem,z0,g]
 by_cases n:(N:Int)<=q
 ·have c:Hid (atR (N:Int) os q=((0,0),1)):=if_pos (Or.inr n);go_enter func129,ntmps129;go_upto_region 1 with fail
  rw[<-a,<-b];clear a b;go_wp2_with fail;refine bodyPost_ret (v:=.tuple #[.agg #[.int .i64 0,.int .i64 0],.int .i64 1]) ?_ rfl ⟨by rw[c.j],f.j _ _⟩;simp[results,results129,go_sem,z0,g]
 obtain⟨k,rfl⟩:∃k:Nat,q=(k:Int):=⟨q.toNat,Z⟩;have i:k<N:=Z;have c:=Y (ap9 (N:Int) os (k:Int) Z);have⟨o,p⟩:=hk.It k i;have t:0<=(k:Int)/\(k:Int)<(N:Int):=Z;generalize jg os (k:Int)=x at o p c;have⟨r,s⟩:=x;dsimp only at o p;have u:¬(k:Int)<0:=Z;have z:=n;go_enter func129,ntmps129;go_upto_region 1 with fail
 rw[<-a,<-b];clear a b;go_wp2_with fail;refine bodyPost_ret (v:=.tuple #[.agg #[.int .i64 r,.int .i64 s],.int .i64 0]) ?_ rfl ⟨by rw[c.j],f.j _ _⟩;simp[results,results129,go_sem,z0,g]
theorem acy(h:qP U w xb P os rs)(n)(hn:af n):Zk 127 #[M xb,.int .i64 n] w λe w'=>Zr e (.tuple #[.int .i64 (nE rs n).1,.int .i64 (nE rs n).2])/\Zq w w':=by
 obtain⟨hw,mb,gb,D,N,rfl,a⟩:=h;exact ahi a n hn
theorem acz(h:qP U w xb P os rs)(q)(b:af q):Zk 129 #[M xb,.int .i64 q] w λe w'=>Zr e (.tuple #[.agg #[.int .i64 (atR P os q).1.1,.int .i64 (atR P os q).1.2],.int .i64 (atR P os q).2])/\Zq w w':=by
 obtain⟨hw,mb,gb,D,N,rfl,a⟩:=h;exact ahL a q
theorem agf(N):oA N []=List.replicate N (0,0):=by
 apply List.ext_getElem
 ·rw[Dv,List.length_replicate]
 intro k h1 a;rw[Mf,List.getElem_replicate];rfl
theorem aiC:(prog.info? 71).map (λi=>(i.zero,i.size,i.bytes))=some (some (.agg #[.int .i64 0,.int .i64 0]),2,16):=Zx
theorem ajM(n):madeCells #[.int .i64 0,.int .i64 0] (n*2)=(fl dG (List.replicate n ((0,0):Int×Int))).toArray:=by
 have⟨c,a⟩:=Ze (#[.int .i64 0,.int .i64 0]:Array Value);rw[<-a];have hs:c.size=2:=by rw[a];rfl
 apply Array.ext';apply List.ext_getElem?;intro j;have f:(fl dG (List.replicate n ((0,0):Int×Int))).length=n*2:=by rw[uv,List.length_replicate];rfl
 by_cases d:j<n*2
 ·have h1:j/2<(List.replicate n ((0,0):Int×Int)).length:=by rw[List.length_replicate];omega
  have b:=Gs dG (List.replicate n ((0,0):Int×Int)) (j/2) (j % 2) h1 (Nat.mod_lt _ I);have e:j/2*dG.sz+j % 2=j:=by show j/2*2+j % 2=j;omega
  rw[e,List.getElem_replicate] at b;rw[List.toList_toArray,b];simp only[madeCells,Array.toList_map,Array.toList_range,List.getElem?_map,List.getElem?_range d,Option.map_some,hs];have hm:j % 2=0\/j % 2=1:=Z;rcases hm with h|h<;>rw[h,a]<;>rfl
 rw[List.getElem?_eq_none (by simp[madeCells];omega),List.toList_toArray,List.getElem?_eq_none Z]
theorem ajI(n:Nat)(h:n<=1000)(w):(Instr.makeSlice 210 (.int .i64 (n:Int)) (.int .i64 (n:Int))).run prog w=.ok (Zs w.heap.size n n) (w.alloc (.cells (fl dG (List.replicate n ((0,0):Int×Int))).toArray 71)):=by
 have hi:=aiC;cases a:prog.info? 71 with
 |none=>rw[a] at hi;simp at hi
 |some i=>
  rw[a] at hi;simp only[Option.map_some,Option.some.injEq,Prod.mk.injEq] at hi;have:=run_make (P:=prog) w 210 71 i _ underlying210 a hi.1 .i64 .i64 n n Z Z (by rw[hi.2.2];omega) Z;rw[this,hi.2.1];simp only[Int.toNat_natCast,Value.cells];rw[ajM]
theorem ai4{L:Lay α}{g n:Nat}(h:w.heap[g]?=some (.cells (fl L xs).toArray T (0,0)))(hn:n=xs.length)(hm:n<=10000):ax L w 0 T (Zs g n n) xs:=by
 subst hn;refine⟨by rw[uv],Or.inr ⟨g,xs.length,_,rfl,Nat.zero_le _,h,Nat.le_refl _,by unfold maxLen;omega,?_,?_⟩⟩
 ·simp only[List.size_toArray];rw[uv]
 rw[List.toList_toArray,<-uv,List.take_length]
theorem agr(k):sK [] k=none:=rfl
theorem acx(n)(h:1<=n/\n<=256)(w):Zk 35 #[.int .i64 n] w λe w'=>∃xb,Zr e (.tuple #[M xb,.int .i64 0])/\w.heap.size<=xb/\qP (λk=>k<w.heap.size) w' xb n [] []/\Zq w w':=by
 obtain⟨m,rfl⟩:∃m:Nat,n=(m:Int):=⟨n.toNat,Z⟩;have p:= @run_makeMap prog;have q:=ajI m Z;have n1:¬(m:Int)<1:=Z;have n2:¬(256:Int)<(m:Int):=Z;go_enter func35,ntmps35;go_wp2;go_ret2;have⟨w1,b⟩:=Ze (w.alloc (.map #[] 0));have⟨w2,a⟩:=Ze (w1.alloc (.cells (fl dG (List.replicate m ((0,0):Int×Int))).toArray 71));have s1:w1.heap.size=w.heap.size+1:=by rw[b];simp
 have s2:w2.heap.size=w.heap.size+2:=by rw[a];simp[s1]
 have g:w2.heap[w.heap.size+1]?=some (.cells (fl dG (List.replicate m ((0,0):Int×Int))).toArray 71 (0,0)):=by
  rw[a,<-s1];exact heap_alloc_last w1 _
 have f:Zq w w2:=by rw[a,b];exact((H.refl _ w).alloc _).alloc _
 rw[<-b,<-a];have⟨w3,d⟩:=Ze (w2.alloc (.cells #[.map (some w.heap.size),.slice (some ⟨w.heap.size+1,0,none⟩) m m] 212));have j:w3.heap[w.heap.size+2]?=some (.cells #[.map (some w.heap.size),.slice (some ⟨w.heap.size+1,0,none⟩) m m] 212 (0,0)):=by
  rw[d,<-s2];exact heap_alloc_last w2 _
 have c:=Za d;have l:ax dG w3 0 71 (.slice (some ⟨w.heap.size+1,0,none⟩) m m) (oA m []):=by
  rw[agf];exact ai4 (H.keep c g id) (List.length_replicate▸rfl) Z
 have o:qP (λk=>k<w.heap.size) w3 (w.heap.size+2) (m:Int) [] []:=⟨(Y (ie.nil h)).j,w.heap.size,w.heap.size+1,.map [],m,rfl,j,QM (a▸(b▸World.ownsMap_made w prog 3 RI).alloc _) c id,λk _=>rfl,(λk i z hk=>by rw[agr] at hk;cases hk),l,Z,Z,Z,λk hk=>by have:=f.size;have:=c.size;omega⟩;rw[<-d];exact⟨w.heap.size+2,rfl,Z,o,f.trans c⟩
theorem aku(hn:(rs.map (·.1)).Nodup){b:Int×Int}(ha:a∈rs)(hb:b∈rs)(h:a.1=b.1):a=b:=by
 obtain⟨i,hi,rfl⟩:=List.getElem_of_mem ha;obtain⟨j,d,rfl⟩:=List.getElem_of_mem hb;have h1:=List.pairwise_iff_getElem.1 hn;rcases Nat.lt_trichotomy i j with c|c|c
 ·exact absurd (by rw[List.getElem_map,List.getElem_map];exact h) (h1 i j (by simpa using hi) (by simpa using d) c)
 ·subst c;rfl
 exact absurd (by rw[List.getElem_map,List.getElem_map];exact h.symm) (h1 j i (by simpa using d) (by simpa using hi) c)
theorem dw.hk(h:dw U w xb mb gb D N os rs)(k)(hk:af k):Maps.has D (.int .i64 k)=true↔k∈rs.map (·.1):=by
 rw[h.hs k hk];exact⟨QQ,λhm=>by obtain⟨i,hi⟩:=Mh hm;rw[hi];rfl⟩
theorem dw.hv(h:dw U w xb mb gb D N os rs)(hn:(rs.map (·.1)).Nodup)(r:Int×Int)(hr:r∈rs)(z:DataW Value):D.atKey (.int .i64 r.1) z=.lit (.int .i64 r.2):=by
 have⟨i,hi⟩:=Mh (List.mem_map.2 ⟨r,hr,rfl⟩);rw[h.ha r.1 i z hi];have⟨a,b⟩:=P9 hi;rw[aaA a,aku hn (List.getElem_mem a) hr b]
section
variable {bt:Lp}
theorem dw.Qb(h:dw U w xb mb gb D N os rs)(l:(bt.map (·.1)).Nodup)(m:∀r∈bt,af r.1){n:Nat}(hm:w3.ownsMap prog 3 RI mb n D2)(o:w.grownBy w3 (some mb))
  (hk:∀k,af k->(Maps.has D2 (.int .i64 k)=true↔k∈bt.map (·.1))) (hv:∀r∈bt,∀z,D2.atKey (.int .i64 r.1) z=.lit (.int .i64 r.2)):dw U w3 xb mb gb D2 N os bt/\H (λj=>¬U j) w w3:=by
 have a:=QP o;have⟨cur,p⟩:=cW h.pg (k:=gb) rfl;have q:=ajc (ks:=bt.map (·.1)) hm (λk b d=>(hk k b).1 d) (λk c=>by
  obtain⟨r,hr,rfl⟩:=List.mem_map.1 c;exact(hk _ (m r hr)).2 c) l
 have c:w3.ownsMap prog 3 RI mb bt.length D2:=by
  have:=ajd hm;rwa[q.2,List.length_map] at this
 refine⟨⟨H.keep a h.x (λe=>QO h.x h.m e),c,λk b=>?_,λk i z hi=>?_,h.pg.kept a (λj f=>by
  have:gb=j:=by simpa[Value.ownBlock] using f
  rw[<-this];exact λe=>QO p h.m e),h.ux,h.um,h.ug,λk hu=>Nat.lt_of_lt_of_le (h.low k hu) a.size⟩,a.mono (λj _ f=>by subst f;exact h.um)⟩
 ·cases hs:sK bt k with
  |some i=>
   have:k∈bt.map (·.1):=QQ (by rw[hs];rfl);exact(hk k b).2 this
  |none=>
   cases d:Maps.has D2 (.int .i64 k) with
   |false=>rfl
   |true=>
    have⟨i,hi⟩:=Mh ((hk k b).1 d);rw[hs] at hi;cases hi
 have⟨g,s⟩:=P9 hi;rw[aaA g,<-s];exact hv _ (List.getElem_mem g) z
end
theorem WH{k:Int}(h:k≠n):(Lit.int .i64 k)≠(Lit.int .i64 n):=λe=>h (by injection e)
theorem WG(h:af n):WideAt.IsKeyLit (.int .i64 n):=ry.key (zW h)
theorem ie.ri(hw:ie P os rs):∀r∈rs,af r.1:=λr hr=>by have:=(hw.rk r hr).1;unfold kB at this;unfold af;omega
theorem dw.added(h:dw U w xb mb gb D N os rs)(c:(rs.map (·.1)).Nodup)(g:∀r∈rs,af r.1){y:Int}(d:af n)(f:n∉rs.map (·.1)){m:Nat}(hm:w3.ownsMap prog 3 RI mb m (D.put (.int .i64 n) (.lit (.int .i64 y))))(i:w.grownBy w3 (some mb)):dw U w3 xb mb gb (D.put (.int .i64 n) (.lit (.int .i64 y))) N os (rs++[(n,y)])/\H (λj=>¬U j) w w3:=by
 refine h.Qb ?_ ?_ hm i (λk hk=>?_) (λr hr z=>?_)
 ·rw[List.map_append,List.nodup_append];refine⟨c,by simp,λa ha b hb=>?_⟩;simp only[List.map_cons,List.map_nil,List.mem_singleton] at hb;rw[hb];exact λe=>f (e▸ha)
 ·intro r hr;rcases List.mem_append.1 hr with hr|hr
  ·exact g r hr
  rw[List.mem_singleton] at hr;rwa[hr]
 ·rw[List.map_append,List.mem_append];by_cases he:k=n
  ·subst he;rw[Maps.has_put_same h.m.isMap (WG d)];simp
  rw[Maps.has_put_other (WH he),h.hk k hk];simp[he]
 rcases List.mem_append.1 hr with hr|hr
 ·have:r.1≠n:=λe=>f (List.mem_map.2 ⟨r,hr,e⟩);rw[Maps.atKey_put_other (WH this)];exact h.hv c r hr z
 rw[List.mem_singleton] at hr;subst hr;exact Maps.atKey_put_same h.m.isMap (WG d) _ z
theorem dw.ahS(h:dw U w xb mb gb D N os rs)(q)(c:q<N)(y)(hr:oA N vI=(oA N os).set q y):
  dw U ((w.setCell (E gb (q*2)) (.int .i64 y.1)).setCell (E gb (q*2+1)) (.int .i64 y.2)) xb mb gb D N vI rs/\H (λj=>¬U j) w ((w.setCell (E gb (q*2)) (.int .i64 y.1)).setCell (E gb (q*2+1)) (.int .i64 y.2)):=by
 have⟨h1,a⟩:=ai0 h.pg (Dv N os).symm q (by rw[Dv];exact c) y;have⟨cur,b⟩:=cW h.pg (k:=gb) rfl;rw[<-hr] at h1;exact⟨⟨H.keep a h.x (λe=>ef b h.x I e.symm),QM h.m a (λe=>QO b h.m e.symm),h.hs,h.ha,h1,h.ux,h.um,h.ug,λk hu=>Nat.lt_of_lt_of_le (h.low k hu) a.size⟩,a.mono (λj _ d=>by subst d;exact h.ug)⟩
theorem ahl(h:dw U w xb mb gb D N os rs)(l:(rs.map (·.1)).Nodup)(m:∀r∈rs,af r.1)(x:rs.length<1000000)(n:Int)(hn:af n)(o:n∉rs.map (·.1)):Zk 123 #[M xb,.agg #[.int .i64 1,.int .i64 n]] w λe w'=>(∃v,Zr e v)/\(∃D2,dw U w' xb mb gb D2 N os (rs++[(n,0)]))/\H (λj=>¬U j) w w':=by
 have⟨w1,b,c,f⟩:=FF w (.int .i64 1) (.int .i64 n) 71;have⟨A,a⟩:=Ze (w.heap.size);rw[<-a] at f;have⟨y,z⟩:=f _ (H.refl _ _);have g:=h.quiet c;have i:=g.quiet ((H.refl (λ_=>False) w1).drew);have c0:=g.c0;have⟨w3,B,p,q⟩:=i.m.update (t:=209) (e:=3) ry underlying209 (by unfold maxLen;omega) (zW hn) (val:=.int .i64 0) (d:=.lit (.int .i64 0)) (ps:=[]) (XH (by unfold af;omega));have⟨s,u⟩:=i.added l m hn o p q;have k:Hid (dw U w3 xb mb gb (D.put (.int .i64 n) (.lit (.int .i64 0))) N os (rs++[(n,0)])/\H (λj=>¬U j) w w3):=⟨s,(((c.trans ((H.refl (λ_=>False) w1).drew)).f).trans u)⟩;go_enter func123,ntmps123;go_upto_region 1 with fail
 rw[<-b,<-a];clear b a;go_wp2_with fail;go_region;all_goals
  go_wp2_with fail;(try simp only[Exit.inBlock,Exit.then]);refine bodyPost_ret (results_none rfl _ _ _) rfl ?_;exact⟨⟨_,rfl⟩,⟨_,k.j.1⟩,k.j.2⟩
theorem ahm(h:dw U w xb mb gb D N os rs)(k n)(hk:k≠1)(hn:n<N)(hr:oA N vI=(oA N os).set n (k,(n:Int))):Zk 123 #[M xb,.agg #[.int .i64 k,.int .i64 (n:Int)]] w λe w'=>(∃v,Zr e v)/\dw U w' xb mb gb D N vI rs/\H (λj=>¬U j) w w':=by
 have⟨w1,c,d,f⟩:=FF w (.int .i64 k) (.int .i64 (n:Int)) 71;have⟨A,b⟩:=Ze (w.heap.size);rw[<-b] at f;have⟨m,o⟩:=f _ (H.refl _ _);have a:=h.quiet d;have c1:=a.c1;have⟨p,q⟩:=a.It n hn;have fz:=λj=>a.pg.fz j;have i:=fz (n*2);have l:=fz (n*2+1);have g:Hid (dw U ((w1.drew.setCell (E gb (n*2)) (.int .i64 k)).setCell (E gb (n*2+1)) (.int .i64 (n:Int))) xb mb gb D N vI rs/\H (λj=>¬U j) w ((w1.drew.setCell (E gb (n*2)) (.int .i64 k)).setCell (E gb (n*2+1)) (.int .i64 (n:Int)))):=by
  have⟨a1,a2⟩:=(a.quiet ((H.refl (λ_=>False) w1).drew)).ahS n hn (k,(n:Int)) hr;exact⟨a1,((d.trans ((H.refl (λ_=>False) w1).drew)).f).trans a2⟩
 have r:0<=(n:Int)/\(n:Int)<(N:Int):=Z;have e1:=beq_eq_false_iff_ne.2 hk;go_enter func123,ntmps123;go_upto_region 1 with fail
 rw[<-c,<-b];clear c b;go_wp2_with fail;go_region;all_goals
  go_wp2;go_end0;exact⟨⟨_,rfl⟩,g.j.1,g.j.2⟩
theorem ahd(k n)(h:k=1->kB n)(w):Zk 122 #[.agg #[.int .i64 k,.int .i64 n]] w λe w'=>Zr e (.agg #[.int .i64 (ej (k,n)),.int .i64 (eh (k,n))])/\Zq w w':=by
 have⟨w2,b,r,i⟩:=laid_two w (.int .i64 k) (.int .i64 n) (.int .i64 0) (.int .i64 0) 71 266;have⟨A,c⟩:=Ze (w.heap.size);have⟨B,d⟩:=Ze (w.heap.size+1);rw[<-c] at i;have s:A+1=B:=Z;rw[s] at i;have l:Hid (Zq w w2/\w.heap.size<=B):=⟨r,Z⟩;have q:Hid (∀a,Zq w2 a->∀x y:Z3,Zq w ((a.setCell (E B 0) x).setCell (E B 1) y)):=λa hv x y=>H.setCell (H.setCell (l.j.1.trans hv) (Or.inr l.j.2) _) (Or.inr l.j.2) _;have f:Hid (∀a,Zq w2 a->∀j,a.frozen? (E B j)=false):=λa hv j=>by
  have t:w2.heap[B]?=some (.cells #[.int .i64 0,.int .i64 0] 266 (0,0)):=by
   rw[b,d];have:=heap_alloc_last (w.alloc (.cells #[.int .i64 k,.int .i64 n] 71)) (.cells #[.int .i64 0,.int .i64 0] 266);simpa using this
  exact(Dp (H.keep hv t id)).2 j
 have m:=Y i;by_cases hk:k=1
 ·subst hk;have o:=Y (λa=>Qj n (h rfl) a);generalize ej (1,n)=u at o|-;generalize eh (1,n)=z at o|-;clear h;obtain⟨⟨a0,a1⟩,F,G⟩:=m.j _ (H.refl _ _);go_enter func122,ntmps122;go_upto_region 1 with fail
  rw[<-b,<-d,<-c];clear b c d;go_wp2_with fail;refine(o.j _).m ?_;rintro e w3 ⟨rfl,g⟩;have⟨⟨K,N⟩,z0,p⟩:=m.j _ g;have f0:=f.j _ g 0;have f1:=f.j _ g 1;go_wp2_with fail;refine bodyPost_ret (v:=.agg #[.int .i64 u,.int .i64 z]) ?_ rfl ⟨rfl,q.j _ (Y g).j _ _⟩;simp[results,results122,go_sem,z0,p]
 have e1:=beq_eq_false_iff_ne.2 hk;have C:ej (k,n)=n:=if_neg hk;have D:eh (k,n)=1:=if_neg hk;rw[C,D];have⟨⟨a0,a1⟩,z0,p⟩:=m.j _ (H.refl _ _);have f0:=f.j _ (H.refl _ _) 0;have f1:=f.j _ (H.refl _ _) 1;go_enter func122,ntmps122;go_upto_region 1 with fail
 rw[<-b,<-d,<-c];clear b c d;go_wp2_with fail;refine bodyPost_ret (v:=.agg #[.int .i64 n,.int .i64 1]) ?_ rfl ⟨rfl,q.j _ (H.refl _ _) _ _⟩;simp[results,results122,go_sem,z0,p]
def sJ(P:Int)(o:Int×Int):Bool:=decide (¬(o.2<0\/(o.1=1/\2304<=o.2))/\¬(ej o % eh o≠0\/P - eh o<ej o))
theorem apF(P os rs o)(hk:1<=o.1/\o.1<=8):iZ P os rs o=if sJ P o=false then 1 else if (os.any (lE o) || rs.any (λr=>lE o (1,r.1)))=true then 7 else 0:=by
 unfold iZ sJ;rw[if_neg Z];by_cases h1:o.2<0\/(o.1=1/\2304<=o.2)
 ·rw[if_pos h1,if_pos (decide_eq_false (λh=>h.1 h1))]
 rw[if_neg h1];by_cases a:ej o % eh o≠0\/P - eh o<ej o
 ·rw[if_pos a,if_pos (decide_eq_false (λh=>h.2 a))]
 rw[if_neg a,decide_eq_true (p:=¬(o.2<0\/(o.1=1/\2304<=o.2))/\¬(ej o % eh o≠0\/P - eh o<ej o)) ⟨h1,a⟩,if_neg (c:=true=false) I]
theorem agm{k:Int}(hk:k≠1)(a:¬n<0):sJ P (k,n)=decide (n<P):=by
 unfold sJ;rw[zO hk,Dx hk,decide_eq_decide];simp only[Int.emod_one];omega
theorem agl(h:kB n):sJ P (1,n)=(decide (ej (1,n) % eh (1,n)=0)&&decide (ej (1,n)+eh (1,n)<=P)):=by
 unfold sJ;unfold kB at h;rw[<-Bool.decide_and,decide_eq_decide];simp only[true_and];omega
theorem aha(h:dw U w xb mb gb D N os rs)(hN:N<=256)(k n)(hn:af n):Zk 120 #[M xb,.agg #[O k,O n]] w λe w'=>Zr e (.bool (sJ (N:Int) (k,n)))/\Zq w w':=by
 have⟨w1,f,Q,v⟩:=FF w (O k) (O n) 71;have⟨A,d⟩:=Ze (w.heap.size);rw[<-d] at v;have⟨R,S⟩:=v _ (H.refl _ _);have OY:=Y v;have m:=Y Q;have T:=Y (h.quiet Q);have c1:=T.j.c1;by_cases V:n<0
 ·have c:Hid (sJ (N:Int) (k,n)=false):=decide_eq_false (λh=>h.1 (Or.inl V));rw[c.j];go_enter func120,ntmps120;go_upto_region 1 with fail
  rw[<-f,<-d];clear f d;go_wp2_with fail
  all_goals
   go_ret;exact⟨rfl,m.j⟩
 by_cases hk:k=1
 ·subst hk;have r:=Y (λa=>WC n Z hn a);obtain⟨W,x⟩:=Ze (n/256);obtain⟨nr,y⟩:=Ze (n % 256);rw[<-x,<-y] at r;by_cases h8:8<W
  ·have c:Hid (sJ (N:Int) (1,n)=false):=decide_eq_false (λh=>h.1 (Or.inr ⟨rfl,by simp only;omega⟩));rw[c.j];clear hn c x y;go_enter func120,ntmps120;go_upto_region 1 with fail
   rw[<-f,<-d];clear f d;go_wp2_with fail;refine(r.j _).e1 ?_;go_wp2_with fail
   all_goals
    go_ret;exact⟨rfl,m.j⟩
  have s:kB n:=by unfold kB;omega
  have t:=Y (λa=>Qj n s a);have u:=P8 s;have c:=Y (agl (P:=(N:Int)) s);obtain⟨m0,z⟩:=Ze (ej (1,n) % eh (1,n));have X:(ej (1,n)).tmod (eh (1,n))=m0:=by rw[z];exact Int.tmod_eq_emod_of_nonneg u.1
  have ji:0<=m0/\m0<256:=by
   have h1:=Int.emod_nonneg (ej (1,n)) (b:=eh (1,n)) Z;have h2:=Int.emod_lt_of_pos (ej (1,n)) (b:=eh (1,n)) Z;omega
  have F3:=Zh m0 Z;rw[<-z] at c;generalize ej (1,n)=a0 at t c X u;generalize eh (1,n)=n0 at t c X u;have Ji:(n0==0)=false:=ZF;have aa:¬n0=0:=Z;have rI:(n0== -1)=false:=ZF;have mZ:=Y (λa=>Mq a0 n0 (by rw[IntKind.wrap_i64];omega) a);obtain⟨en,rQ⟩:=Ze (a0+n0);rw[<-rQ] at mZ c;clear hn x y s u z rQ;have ab:¬8<W:=h8;by_cases C:m0=0
  ·subst C;have o:Hid (sJ (N:Int) (1,n)=decide (en<=(N:Int))):=by show _=_;rw[c.j];simp
   obtain⟨eb,ad⟩:=Ze (decide (en<=(N:Int)));rw[o.j];clear c o;go_enter func120,ntmps120;go_upto_region 1 with fail
   rw[<-f,<-d];clear f d;go_wp2_with fail;refine(r.j _).e1 ?_;go_wp2_with fail;refine(t.j _).m ?_;rintro e w3 ⟨rfl,j⟩;have zq:=Y (T.j.quiet j);have F:=Y (m.j.trans j);clear j R S c1;obtain⟨p,q,l,g⟩:=FF w3 (O a0) (O n0) 266;obtain⟨B,i⟩:=Ze (w3.heap.size);rw[<-i] at g;have G:=Y (zq.j.quiet l);have K:=Y (F.j.trans l);have az:Hid (∀a,Zq p a->Zc a B 0 (O a0)/\Zc a B 1 (O n0)/\Zc a xb 1 (Zs gb N N)):=λa hv=>⟨(g a hv).1,(g a hv).2,(G.j.quiet hv).c1⟩
   clear g l;go_upto_region 9 with fail
   rw[<-q,<-i];clear q i;have fg:Hid (Zq p p.drew):=(H.refl _ p).drew;have ah:=Y (az.j _ fg.j);have aK:=ah;go_region_held3 (λa=>Zc a B 0 (O a0)/\Zc a B 1 (O n0)/\Zc a xb 1 (Zs gb N N)) (with_reducible (first|exact ah.j|exact aK.j)) (first|(go_at_call 218;refine(mZ.j _).m ?_;rintro e w5 ⟨rfl,iA⟩;have ik:=Y (fg.j.trans iA);clear iA;have aK:=Y (az.j _ ik.j)));go_wp2_with fail
   all_goals
    go_ret;exact⟨by first|rfl|simp_all,K.j.trans ik.j⟩
  have GF:(m0==0)=false:=beq_eq_false_iff_ne.2 C;have o:Hid (sJ (N:Int) (1,n)=false):=by show _=_;rw[c.j,decide_eq_false C];rfl
  rw[o.j];clear c o;go_enter func120,ntmps120;go_upto_region 1 with fail
  rw[<-f,<-d];clear f d;go_wp2_with fail;refine(r.j _).e1 ?_;go_wp2_with fail;refine(t.j _).m ?_;rintro e w3 ⟨rfl,j⟩;have F:=Y (m.j.trans j);clear j R S c1;obtain⟨p,q,l,g⟩:=FF w3 (O a0) (O n0) 266;obtain⟨B,i⟩:=Ze (w3.heap.size);rw[<-i] at g;have K:=Y (F.j.trans l);obtain⟨p0,p1⟩:=g _ (H.refl _ _);clear g l;go_upto_region 9 with fail
  rw[<-q,<-i];clear q i;go_quiet (fail);go_wp2_with fail
  all_goals
   go_ret;exact⟨rfl,K.j.trans ((H.refl _ _).drewN _)⟩
 have c:=Y (agm (P:=(N:Int)) hk V);have e1:(k !=1)=true:=by simpa using hk
 have e2:(k==1)=false:=by simpa using hk
 rw[c.j];clear c hn;go_enter func120,ntmps120;go_upto_region 1 with fail
 rw[<-f,<-d];clear f d;go_wp2_with fail;go_quiet (fail);go_wp2_with fail
 all_goals
  go_ret;exact⟨rfl,m.j.trans ((H.refl _ _).drewN _)⟩
theorem aeG(hw:ie P os rs)(o):(os.any (lE o) || rs.any (λr=>lE o (1,r.1)))=wI os rs (ej o) (eh o):=by
 unfold wI uy;rw[Bool.or_comm];congr 1
 ·congr 1;funext r;unfold DH lE;rw[ajm]
 rw[Bool.eq_iff_iff,List.any_eq_true,List.any_eq_true];refine exists_congr λx=>and_congr_right λa=>?_;have hk:=hw.ok x a;unfold lE rz;rw[zO (o:=x) Z,Dx (o:=x) Z,decide_eq_true_iff,decide_eq_true_iff];omega
theorem agn(h:sJ P o=true):(o.1=1->kB o.2)/\0<=ej o/\1<=eh o/\ej o+eh o<=P/\(o.1≠1->ej o=o.2):=by
 have h1:=of_decide_eq_true h;have hr:o.1=1->kB o.2:=λhe=>by
  have:=h1.1;unfold kB;omega
 refine⟨hr,?_,(Qp hr).1,?_,λhe=>zO he⟩
 ·by_cases he:o.1=1
  ·exact(Qr he).1
  rw[zO he];have:=h1.1;omega
 have:=h1.2;omega
theorem aeF(hr:kB n)(h:wI os rs (ej (1,n)) (eh (1,n))=false):n∉rs.map (·.1):=λhm=>by
 unfold wI at h;rw[Bool.or_eq_false_iff] at h;have hb:=P8 hr;have a:DH (ej (1,n)) (eh (1,n)) n=true:=decide_eq_true Z;have:=V7 (f:=DH (ej (1,n)) (eh (1,n))) hm a;rw[h.1] at this;cases this
theorem aeE{a m:Int}(h:wI os rs a m=false){q:Int}(b:a<=q/\q<a+m):∀x∈os,x.2≠q:=λx c he=>by
 unfold wI uy at h;rw[Bool.or_eq_false_iff,List.any_eq_false,List.any_eq_false] at h;exact h.2 x c (decide_eq_true (he▸b))
theorem ag9(hn:(os.map (·.2)).Nodup)(hf:∀x∈os,x.2≠o.2)(a:0<=o.2):oA N (os++[o])=(oA N os).set o.2.toNat o:=by
 refine agh ?_ (λk hk=>?_)
 ·rw[WR hn hf,if_pos Z]
 rw[WR hn hf,if_neg Z]
theorem acA(h:qP U w xb P os rs)(k n)(hk:af k)(hn:af n):Zk 84 #[M xb,.agg #[O k,O n]] w λe w'=>Zr e (O (iZ P os rs (k,n)))/\qP U w' xb P (lR P os rs (k,n)) (oV P os rs (k,n))/\Zn U w w':=by
 have u:Hid (iZ P os rs (k,n)≠0->∀b,Zq w b->qP U b xb P (lR P os rs (k,n)) (oV P os rs (k,n))/\Zn U w b):=λhe b hv=>by
  have⟨e1,e2⟩:=TQ (k,n) he;rw[e1,e2];exact⟨h.step hv (λ_ _ h=>h.elim) (λ_ h=>Or.inl h),hv.f⟩
 have S:=Y (h.wf.add (k,n));obtain⟨hw,mb,gb,D,N,rfl,hx⟩:=h;have hp:=hw.p;have⟨w1,g,ar,T⟩:=FF w (O k) (O n) 71;have⟨A,d⟩:=Ze (w.heap.size);rw[<-d] at T;have V:=Y T;have x:=Y ar;have W:=Y (hx.quiet ar);have p:=Y (λb=>alo k b);have⟨q0,q1⟩:=T _ (H.refl _ _);have y:=Y (λb(hv:Zq w1 b)=>aha (W.j.quiet hv) Z k n hn);by_cases z:1<=k/\k<=8
 ·rw[decide_eq_true z] at p;have r:=apF (N:Int) os rs (k,n) z;rw[aeG hw] at r;cases l:sJ (N:Int) (k,n) with
  |false=>
   rw[l] at y;have f:Hid (iZ (N:Int) os rs (k,n)=1):=by show _=_;rw[r,l];rfl
   have i:=Y (u.j (by rw[f.j];decide));rw[f.j];go_enter func84,ntmps84;go_upto_region 1 with fail
   rw[<-g,<-d];clear g d;go_wp2_with fail;refine(p.j _).e1 ?_;go_wp2_with fail;refine(y.j _ (H.refl _ _)).m ?_;rintro e w3 ⟨rfl,c⟩;have s:=Y (x.j.trans c);go_wp2_with fail;all_goals
    go_ret;exact⟨rfl,(i.j _ s.j).1,(i.j _ s.j).2⟩
  |true=>
   rw[l] at y;have⟨X,b2,b3,b4,b5⟩:=agn l;have GS:=Y (λb=>ahd k n X b);have⟨a,ha⟩:∃a:Nat,ej (k,n)=(a:Int):=⟨(ej (k,n)).toNat,Z⟩;have⟨m,hm⟩:∃m:Nat,eh (k,n)=(m:Int):=⟨(eh (k,n)).toNat,Z⟩;have R:=Y (λb(hv:Zq w1 b)=>ah9 (W.j.quiet hv) hw a m Z Z);rw[ha,hm] at GS r;cases j:wI os rs (a:Int) (m:Int) with
   |true=>
    rw[j] at R;have f:Hid (iZ (N:Int) os rs (k,n)=7):=by show _=_;rw[r,l,j];rfl
    have i:=Y (u.j (by rw[f.j];decide));rw[f.j];go_enter func84,ntmps84;go_upto_region 1 with fail
    rw[<-g,<-d];clear g d;go_wp2_with fail;refine(p.j _).e1 ?_;go_wp2_with fail;refine(y.j _ (H.refl _ _)).m ?_;rintro e w3 ⟨rfl,c⟩;have s:=Y c;obtain⟨B,r1⟩:=V.j _ c;clear c q0 q1;go_wp2_with fail;refine(GS.j _).m ?_;rintro e w4 ⟨rfl,C⟩;have F:=Y (s.j.trans C);clear C B r1;go_wp2_with fail;refine(R.j _ F.j).m ?_;rintro e w5 ⟨rfl,G⟩;have t:=Y (x.j.trans (F.j.trans G));clear G;go_wp2_with fail
    all_goals
     go_ret
     exact⟨rfl,(i.j _ t.j).1,(i.j _ t.j).2⟩
   |false=>
    rw[j] at R;have he:iZ (N:Int) os rs (k,n)=0:=by rw[r,l,j];rfl
    rw[<-ha,<-hm] at j
    have aa:Hid (∀b,Zq w b->dw U b xb mb gb D N os rs->Zk 123 #[M xb,.agg #[O k,O n]] b λe w'=>(∃v,Zr e v)/\qP U w' xb (N:Int) (lR (N:Int) os rs (k,n)) (oV (N:Int) os rs (k,n))/\Zn U w w'):=λb hv YH=>by
     by_cases K:k=1
     ·subst K;have e6:lR (N:Int) os rs (1,n)=os:=if_neg (λe=>e.2 rfl);have e7:oV (N:Int) os rs (1,n)=rs++[(n,0)]:=if_pos ⟨he,rfl⟩;have Q:=S.j;rw[e6,e7] at Q|-;refine(ahl YH hw.rn hw.ri (by have:=hw.lr;omega) n hn (aeF (X rfl) j)).m ?_;rintro e w' ⟨h1,⟨D2,h2⟩,c⟩;exact⟨h1,⟨Q,mb,gb,D2,N,rfl,h2⟩,(hv.f).trans c⟩
     have e6:lR (N:Int) os rs (k,n)=os++[(k,n)]:=if_pos ⟨he,K⟩;have e7:oV (N:Int) os rs (k,n)=rs:=if_neg (λe=>K e.2);have Q:=S.j;rw[e6,e7] at Q|-;have b6:=b5 K;simp only at b6;obtain⟨q,rfl⟩:∃q:Nat,n=(q:Int):=⟨n.toNat,Z⟩
     have gS:=ag9 (N:=N) (o:=(k,(q:Int))) hw.on (aeE j (by simp only;omega)) (by simp only;omega);have e8:((k,(q:Int)).2).toNat=q:=by simp
     rw[e8] at gS;refine(ahm YH k q K Z gS).m ?_;rintro e w' ⟨h1,h2,c⟩;exact⟨h1,⟨Q,mb,gb,D,N,rfl,h2⟩,(hv.f).trans c⟩
    rw[he];clear u r l z hw hk hn hp X b2 b3 b4 b5 ha hm j he S;go_enter func84,ntmps84;go_upto_region 1 with fail
    rw[<-g,<-d];clear g d;go_wp2_with fail;refine(p.j _).e1 ?_;go_wp2_with fail;refine(y.j _ (H.refl _ _)).m ?_;rintro e w3 ⟨rfl,c⟩;have s:=Y c;obtain⟨B,r1⟩:=V.j _ c;clear c q0 q1;go_wp2_with fail;refine(GS.j _).m ?_;rintro e w4 ⟨rfl,C⟩;have F:=Y (s.j.trans C);clear C B r1;go_wp2_with fail;refine(R.j _ F.j).m ?_;rintro e w5 ⟨rfl,G⟩;have t:=Y (F.j.trans G);obtain⟨B,r1⟩:=V.j _ t.j;clear G;go_wp2_with fail;refine(aa.j _ (x.j.trans t.j) (W.j.quiet t.j)).m ?_;rintro e w6 ⟨⟨v,rfl⟩,h6,h7⟩;have H6:=Y (⟨h6,h7⟩:_/\_);clear h6 h7 B r1;go_wp2_with fail
    all_goals
     go_ret;exact⟨rfl,H6.j.1,H6.j.2⟩
 rw[decide_eq_false z] at p;have f:Hid (iZ (N:Int) os rs (k,n)=12):=by show _=_;unfold iZ;rw[if_pos (by simp only;omega)]
 have i:=Y (u.j (by rw[f.j];decide));rw[f.j];clear u z hw hk hn hp f;go_enter func84,ntmps84;go_upto_region 1 with fail
 rw[<-g,<-d];clear g d;go_wp2_with fail;refine(p.j _).e1 ?_;go_wp2_with fail
 all_goals
  go_ret;exact⟨rfl,(i.j _ x.j).1,(i.j _ x.j).2⟩
section
variable {A7:DataW Value}{Q:Int->Value}{s:Bs}
theorem eE.opened(h:eE U w xb mp mw DP DW GP GW Q s)(hb:lX s)(hi:pF s.ps n=none)(b:Bool){g:Nat}(hg:w.heap[g]?=some (.cells (qy ⟨n,b,0⟩ (.slice none 0 0)) 306 (0,0)))(o:∀p∈s.ps,GP p.num≠g)(u:¬U g)(hm:i6 w3 mp A7 (s.ps.map (·.num)++[n]) (kK GP n g))(d:H (λk=>k=mp) w w3)(v:s.ps.length<1000000):
  (∃Q',eE U w3 xb mp mw A7 DW (kK GP n g) GW Q' ⟨s.ps++[⟨n,b,0⟩],s.ws⟩)/\Zn U w w3:=by
 have i:∀p∈s.ps,p.num≠n:=λp hp e=>by
  have:=jQ hi p hp;simp[e] at this
 have j:∀p∈s.ps,kK GP n g p.num=GP p.num:=λp hp=>yH GP g (i p hp);have hN:=Bt GP n g;have r:eW s n=[]:=by
  unfold eW;rw[List.map_eq_nil_iff,List.filter_eq_nil_iff];intro x m f;have⟨p,hp,h1,_⟩:=hb.at' x m;exact i p hp (h1.trans (of_decide_eq_true f))
 have c:∀p∈s.ps++[(⟨n,b,0⟩:Pc)],p∈s.ps\/p=⟨n,b,0⟩:=λp hp=>by
  rcases List.mem_append.1 hp with hp|hp
  ·exact Or.inl hp
  rw[List.mem_singleton] at hp;exact Or.inr hp
 refine⟨⟨λk=>if k=n then .slice none 0 0 else Q k,H.keep d h.x (λe=>h.pm.ne h.x e),?_,h.wm.keep d (λe=>h.mn e.symm),h.mn,λp hp=>?_,λx m=>H.keep d (h.wb x m) (λe=>h.pm.ne (h.wb x m) e),λp hp q a f=>?_,h.gw,λp hp=>?_,λp hp q a k h1 l=>?_,h.ux,h.u1,h.u2,λp hp=>?_,h.uw,λp hp k hk=>?_,λk hk=>Nat.lt_of_lt_of_le (h.low k hk) d.size,?_,h.nl⟩,d.mono (λk _ e=>e▸h.u1)⟩
 ·rwa[List.map_append]
 ·rcases c p hp with hp|hp
  ·show w3.heap[kK GP n g p.num]?=some (.cells (qy p (if p.num=n then _ else Q p.num)) _ _);rw[j p hp,if_neg (i p hp)];exact H.keep d (h.pb p hp) (λe=>h.pm.ne (h.pb p hp) e)
  subst hp;show w3.heap[kK GP n g n]?=some (.cells (qy _ (if n=n then _ else Q n)) _ _);rw[hN,if_pos rfl];exact H.keep d hg (λe=>h.pm.ne hg e)
 ·rcases c p hp with hp|hp
  ·rcases c q a with a|a
   ·rw[j p hp,j q a] at f;exact h.gp p hp q a f
   subst a;rw[j p hp] at f;exact absurd (f.trans hN) (o p hp)
  subst hp;rcases c q a with a|a
  ·rw[j q a] at f;exact absurd (f.symm.trans hN) (o q a)
  rw[a]
 ·show ax cn w3 0 250 (if p.num=n then .slice none 0 0 else Q p.num) ((eW s p.num).map GW);rcases c p hp with hp|hp
  ·rw[if_neg (i p hp)];refine(h.qs p hp).kept d (λk hk e=>?_);have⟨cur,t⟩:=cW (h.qs p hp) hk;exact h.pm.ne t e
  subst hp;show ax cn w3 0 250 (if n=n then .slice none 0 0 else Q n) ((eW s n).map GW);rw[if_pos rfl,r];exact ax.nil _ _ _ _
 ·have h1:=h1;have l:=l;rcases c p hp with hp|hp
  ·rcases c q a with a|a
   ·rw[if_neg (i p hp)] at h1;rw[if_neg (i q a)] at l;exact h.qd p hp q a k h1 l
   subst a;rw[if_pos rfl] at l;cases l
  subst hp;rw[if_pos rfl] at h1;cases h1
 ·rcases c p hp with hp|hp
  ·show¬U (kK GP n g p.num);rw[j p hp];exact h.up p hp
  subst hp;show¬U (kK GP n g n);rwa[hN]
 ·have hk:=hk;rcases c p hp with hp|hp
  ·rw[if_neg (i p hp)] at hk;exact h.uq p hp k hk
  subst hp;rw[if_pos rfl] at hk;cases hk
 show(s.ps++[(⟨n,b,0⟩:Pc)]).length<=1000000;rw[List.length_append,List.length_singleton];omega
end
theorem O5(w e):Zk 183 #[O e] w λx w'=>x=.returned (.agg #[O e,O (-1),J 0,J 0,J 0,J 0,J 0,J 0,.bool false,.bool false,.bool false])/\Zq w w':=by
 go_enter func183,ntmps183;go_wp2_with fail;refine bodyPost_ret (v:=.agg #[O e,O (-1),J 0,J 0,J 0,J 0,J 0,J 0,.bool false,.bool false,.bool false]) ?_ rfl ⟨rfl,?_⟩
 ·simp[results,results183,go_sem]
 exact(H.refl _ _).alloc _
def xP(h:Int):Bool:=decide (h=3\/h=7)
def PO(h:Int):Bool:=decide (h=2\/h=3\/h=7)
theorem abu(w h):Zk 263 #[O h] w λx w'=>x=.returned (.bool (xP h))/\w'=w:=by
 by_cases a:h=3
 ·subst a;go_enter func263,ntmps263;go_wp2_with fail;all_goals
   go_ret;exact⟨rfl,rfl⟩
 by_cases b:h=7
 ·subst b;go_enter func263,ntmps263;go_wp2_with fail;all_goals
   go_ret;exact⟨rfl,rfl⟩
 have c:Hid (xP h=false):=decide_eq_false Z;have d:(h==3)=false:=by simpa using a
 have e:(h==7)=false:=by simpa using b
 rw[c.j];go_enter func263,ntmps263;go_wp2_with fail;all_goals
  go_ret;exact⟨by first|rfl|simp_all,rfl⟩
theorem V5(w h):Zk 182 #[O h] w λx w'=>x=.returned (.bool (PO h))/\w'=w:=by
 by_cases a:h=2
 ·subst a;go_enter func182,ntmps182;go_wp2_with fail;all_goals
   go_ret;exact⟨rfl,rfl⟩
 have c:Hid (PO h=xP h):=by
  show decide _=decide _;rw[decide_eq_decide];omega
 have d:(h==2)=false:=by simpa using a
 have b:=Y (abu w h);rw[c.j];generalize xP h=bb at b;go_enter func182,ntmps182;go_wp2_with fail;refine b.j.e1 ?_;go_wp2_with fail;all_goals
  go_ret;exact⟨by first|rfl|simp_all,rfl⟩
theorem UJ(w p h m0 m1 m2 m3 m4 m5):Zk 187 #[O p,O h,.agg #[J m0,J m1,J m2,J m3,J m4,J m5]] w λx w'=>x=.returned (.agg #[O 0,O p,J m0,J m1,J m2,J m3,J m4,J m5,.bool false,.bool (xP h),.bool (decide (h=7))])/\Zq w w':=by
 have a:=Y (λf=>abu f h);generalize xP h=d at a|-;by_cases b:h=7
 ·subst b;go_enter func187,ntmps187;go_wp2_with fail;go_region_with (go_at_call 263;refine(a.j _).m ?_;rintro e w' ⟨rfl,h⟩;have c:=h.symm;clear h;subst c);all_goals
   go_wp2_with fail;refine bodyPost_ret (v:=.agg #[O 0,O p,J m0,J m1,J m2,J m3,J m4,J m5,.bool false,.bool d,.bool true]) ?_ rfl ⟨rfl,?_⟩
   ·simp[results,results187,go_sem]
   repeat' (first|exact H.refl _ _|refine H.drew ?_|refine H.alloc ?_ _)
 have g:(h==7)=false:=by simpa using b
 rw[decide_eq_false b];go_enter func187,ntmps187;go_wp2_with fail;go_region_with (go_at_call 263;refine(a.j _).m ?_;rintro e w' ⟨rfl,h⟩;have c:=h.symm;clear h;subst c);all_goals
  go_wp2_with fail;refine bodyPost_ret (v:=.agg #[O 0,O p,J m0,J m1,J m2,J m3,J m4,J m5,.bool false,.bool d,.bool false]) ?_ rfl ⟨rfl,?_⟩
  ·simp[results,results187,go_sem]
  repeat' (first|exact H.refl _ _|refine H.drew ?_|refine H.alloc ?_ _)
section
variable {s:Bs}
def tE(GP:Int->Nat)(s:Bs)(n:Int)(b:Bool):Value:=match pF s.ps n with
 |none=>.pointer none
 |some i=>if (ue s i).ga=b then .pointer (some ⟨GP n,0,none⟩) else .pointer none
end
section
variable {Q:Int->Value}{s:Bs}
theorem aoZ(h:eE U w xb mp mw DP DW GP GW Q s)(n)(hn:af n)(b):Zk 264 #[M xb,O n,.bool b] w λe w'=>Zr e (tE GP s n b)/\w'=w:=by
 have c0:=h.c0;cases hi:pF s.ps n with
 |none=>
  have hk:=h.XT hi hn;have a:Hid (tE GP s n b=.pointer none):=by show _=_;unfold tE;rw[hi]
  rw[a.j];go_enter func264,ntmps264;go_wp2_with fail;all_goals
   go_ret;exact⟨rfl,rfl⟩
 |some i=>
  have hk:=h.XS hi hn;have⟨f,j,hp,k,d,l⟩:=h.place hi;clear k l;have c:=d.c0;by_cases hb:s.ps[i].ga=b
  ·have a:Hid (tE GP s n b=.pointer (some ⟨GP n,0,none⟩)):=by show _=_;unfold tE;rw[hi];dsimp only;rw[hp,if_pos hb]
   rw[a.j];rw[hb] at c;have o:(b !=b)=false:=by simp
   generalize GP n=g at c hk|-;clear h hi hn d hp hb j a f;go_enter func264,ntmps264;go_wp2_with fail
   all_goals
    go_ret;exact⟨rfl,rfl⟩
  have a:Hid (tE GP s n b=.pointer none):=by show _=_;unfold tE;rw[hi];dsimp only;rw[hp,if_neg hb]
  rw[a.j];have m:s.ps[i].ga= !b:=by
   cases h1:s.ps[i].ga<;>cases b<;>simp_all
  rw[m] at c;generalize GP n=g at c hk;cases b with
  |true=>
   go_enter func264,ntmps264;go_wp2_with fail;all_goals
    go_ret;exact⟨rfl,rfl⟩
  |false=>
   go_enter func264,ntmps264;go_wp2_with fail;all_goals
    go_ret;exact⟨rfl,rfl⟩
end
section
variable {s:Bs}
def rX(GP:Int->Nat)(s:Bs)(n:Int)(b:Bool)(t:Int):Value:=if iS s n b t=0 then .tuple #[.pointer (some ⟨GP n,0,none⟩),O 0] else .tuple #[.pointer none,O (iS s n b t)]
theorem ap0(h:tE GP s n b=.pointer none)(t):iS s n b t=6:=by
 unfold tE at h;unfold iS;cases hi:pF s.ps n with
 |none=>rfl
 |some i=>
  rw[hi] at h;dsimp only at h|-;by_cases hb:(ue s i).ga=b
  ·rw[if_pos hb] at h;cases h
  rw[if_pos hb]
theorem aoX(h:tE GP s n b=.pointer (some ⟨GP n,0,none⟩))(t):(∃i,pF s.ps n=some i/\(ue s i).ga=b)/\iS s n b t=if (tF s.ws t).isSome=true then 16 else 0:=by
 unfold tE at h;unfold iS;cases hi:pF s.ps n with
 |none=>rw[hi] at h;cases h
 |some i=>
  rw[hi] at h;dsimp only at h|-;by_cases hb:(ue s i).ga=b
  ·exact⟨⟨i,rfl,hb⟩,by rw[if_neg (λa=>a hb)]⟩
  rw[if_neg hb] at h;cases h
theorem aoY(GP s n b):tE GP s n b=.pointer none\/tE GP s n b=.pointer (some ⟨GP n,0,none⟩):=by
 unfold tE;split
 ·exact Or.inl rfl
 split
 ·exact Or.inr rfl
 exact Or.inl rfl
end
section
variable {Q:Int->Value}{s:Bs}
theorem abq(h:eE U w xb mp mw DP DW GP GW Q s)(n)(hn:af n)(b t)(ht:af t):Zk 184 #[M xb,O n,O t,.bool b] w λe w'=>Zr e (rX GP s n b t)/\w'=w:=by
 have a:=Y (aoZ h n hn b);have c1:=h.c1;rcases aoY GP s n b with hf|hf
 ·have hm:=ap0 hf t;have c:Hid (rX GP s n b t=.tuple #[.pointer none,O 6]):=by show _=_;unfold rX;rw[hm];rfl
  rw[hf] at a;rw[c.j];go_enter func184,ntmps184;go_wp2_with fail;refine a.j.e1 ?_;go_wp2_with fail;all_goals
   go_ret2;exact⟨rfl,rfl⟩
 have⟨_,hm⟩:=aoX hf t;rw[hf] at a;cases hi:tF s.ws t with
 |none=>
  have hk:=h.XR hi ht;have c:Hid (rX GP s n b t=.tuple #[.pointer (some ⟨GP n,0,none⟩),O 0]):=by show _=_;unfold rX;rw[hm,hi];rfl
  rw[c.j];generalize GP n=g at a|-;clear h hf hm hn ht c hi;go_enter func184,ntmps184;go_wp2_with fail;refine a.j.e1 ?_;go_wp2_with fail
  all_goals
   go_ret2;exact⟨rfl,rfl⟩
 |some j=>
  have hk:=h.XQ hi ht;have c:Hid (rX GP s n b t=.tuple #[.pointer none,O 16]):=by show _=_;unfold rX;rw[hm,hi];rfl
  rw[c.j];generalize GP n=g at a;generalize GW t=g2 at hk;go_enter func184,ntmps184;go_wp2_with fail;refine a.j.e1 ?_;go_wp2_with fail;all_goals
   go_ret2;exact⟨rfl,rfl⟩
end
end Go.Proofs.YtdjlkahbpdoemaaGreatDoor
namespace Go.Vx
theorem Xl{f:α->β}:∀{l:List α},l.Nodup->(∀x∈l,∀y∈l,f x=f y->x=y)->(l.map f).Nodup
 |[],_,_=>List.nodup_nil
 |a::l,hn,hi=>by
  rw[List.nodup_cons] at hn;rw[List.map_cons,List.nodup_cons];refine⟨λh=>?_,Xl hn.2 (λx b y hy=>hi x (List.mem_cons_of_mem _ b) y (List.mem_cons_of_mem _ hy))⟩;obtain⟨y,hy,he⟩:=List.mem_map.1 h;have:=hi y (List.mem_cons_of_mem _ hy) a List.mem_cons_self he;exact hn.1 (this▸hy)
theorem ant[DecidableEq α][DecidableEq β]{f:α->β}{a:α}(hi:∀x∈l,f x=f a->x=a):(l.map f).filter (λy=>decide (y≠f a))=(l.filter (λx=>decide (x≠a))).map f:=by
 rw[List.filter_map];congr 1;apply List.filter_congr;intro x b;simp only[Function.comp];rw[decide_eq_decide];constructor
 ·intro h e;exact h (e▸rfl)
 intro h e;exact h (hi x b e)
end Go.Vx
namespace Go.Proofs.YtdjlkahbpdoemaaGreatDoor
variable {Q q:Kn×Int×Nat}
section
variable {s:Bs}
theorem lX.place(hb:lX s){j:Nat}(a:j<s.ws.length):∃i,pF s.ps s.ws[j].at'=some i/\af s.ws[j].at':=by
 have⟨p,hp,h1,_⟩:=hb.at' _ (List.getElem_mem a);have⟨i,hi⟩:=Dz.2 (List.mem_map.2 ⟨p,hp,h1⟩);exact⟨i,hi,h1▸hb.ip p hp⟩
end
section
variable {Q:Int->Value}{s:Bs}
theorem eE.ak0(h:eE U w xb mp mw DP DW GP GW Q s)(n):(∀x∈(eW s n).map GW,Lv w x)/\(∀x∈eW s n,∀y∈eW s n,GW x=GW y->x=y):=by
 refine⟨λx c=>?_,λx c y hy he=>?_⟩
 ·obtain⟨t,ht,rfl⟩:=List.mem_map.1 c;obtain⟨z,d,rfl,_⟩:=IJ ht;exact⟨_,_,h.wb z d⟩
 obtain⟨a,ha,rfl,_⟩:=IJ c;obtain⟨b,hb,rfl,_⟩:=IJ hy;exact h.gw a ha b hb he
end
def zE(w:Z0)(g:Nat)(x:Wt):Prop:=w.heap[g]?=some (.cells (E7 x) 252 (0,0))
section
variable {Q:Int->Value}{s:Bs}
theorem abm(h:eE U w xb mp mw DP DW GP GW Q s)(hb:lX s){j:Nat}(P:tF s.ws t=some j):Zk 186 #[M xb,.pointer (some ⟨GW t,0,none⟩)] w λe w'=>(∃x,Zr e x)/\eQ U w' xb ⟨s.ps,oS s.ws j⟩/\Zn U w w'/\zE w' (GW t) (sA s j):=by
 have⟨g,c,l,o,el,z⟩:=h.waiter P;clear el;rw[l];have⟨i,hi,A⟩:=hb.place g;have⟨n,hn⟩:=Ze (s.ws[j].at');rw[<-hn] at hi A;have it:af t:=by rw[<-c];exact hb.iw _ z
 have⟨B,oJ,jy,fF,Rg,tj⟩:=h.place hi;clear jy Rg;have C:=h.quiet ((H.refl (λ_=>False) w).drew);have⟨w3,cR,D,R⟩:=C.wm.del (t:=217) (e:=250) underlying217 t it;have S:=((H.refl (λk=>k=mw) w).drew).trans R;have V:(s.ws.map (·.bL)).filter (λk=>decide (k≠t))=(oS s.ws j).map (·.bL):=by
  rw[ab7 (·.bL) s.ws hb.nt g,List.filter_map];simp only[c];rfl
 rw[V] at D;have b:=S.trans ((H.refl _ w3).drew);have W:=D.keep ((H.refl (λ_=>False) w3).drew) id;have d:=H.keep b o (λe=>h.wm.ne o e);have v5:=Dl d;have X:=Dl (H.keep ((H.refl (λ_=>False) w).drew) o id);have I8:=h.pm.keep b (λe=>h.mn e);have F:=I8.look (t:=216) (e:=298) underlying216 MM n A;unfold yK at F;rw[if_pos (Dz.1 ⟨i,hi⟩)] at F;have aa:=(cell_of_row _ _ 0 _ _ (0,0) (H.keep b h.x (λe=>h.wm.ne h.x e))).trans rfl;have Tx:=C.c1;have r:xU w3.drew (GP n) 2 (qy s.ps[i] (Q n)) 306 (Q n) ((eW s n).map GW):=by
  have q:=h.queue hi B;refine⟨H.keep b q.b (λe=>h.wm.ne q.b e),q.c',q.o.kept b (λk hk e=>?_),q.ne,q.n⟩;have⟨cur,f⟩:=cW q.o hk;exact h.wm.ne f e
 have⟨jA,G⟩:=h.ak0 n;have m:∀x∈(eW s n).map GW,Lv w3.drew x:=λx a=>by
  have⟨cs,T,f⟩:=jA x a;exact⟨cs,T,H.keep b f (λe=>h.wm.ne f e)⟩
 have Aj:t∈eW s n:=List.mem_map.2 ⟨s.ws[j],List.mem_filter.2 ⟨z,decide_eq_true hn.symm⟩,c⟩;have Z7:=r.b;have u:Hid (Zk 265 #[.pointer (some ⟨GP n,2,none⟩),.pointer (some ⟨GW t,0,none⟩)] w3.drew λe w'=>(∃x,Zr e x)/\Hid (eQ U w' xb ⟨s.ps,oS s.ws j⟩/\Zn U w w'/\zE w' (GW t) s.ws[j])):=by
  refine(alL r (Xl (ak2 hb.nt n) G) m ⟨_,_,d⟩).m ?_;rintro e w' ⟨he,v⟩;rw[ant (λx a he=>G x a t Aj he)] at v;have K:=v
  have e9:(eW s n).filter (λx=>decide (x≠t))=eW ⟨s.ps,oS s.ws j⟩ n:=by
   rw[XY hb.nt g];simp only[c]
  rw[e9] at v
  obtain⟨⟨Q',FY⟩,hO⟩:=h.Wn hi B W b v (λx a=>h.wb x ((Cv s.ws j).mem a)) (λx a y hy=>h.gw x ((Cv s.ws j).mem a) y ((Cv s.ws j).mem hy)) (λp hp aH=>by
   rw[ak4 hb.nt g (λe=>aH (by rw[hn];exact e.symm))]) (λx a=>h.uw x ((Cv s.ws j).mem a)) (Nat.le_trans (Cv s.ws j).length_le h.nl)
  refine⟨he,⟨hb.cut j,_,_,_,_,_,_,_,FY⟩,hO,?_⟩;obtain⟨v',_,_,dp,_⟩:=K;refine H.keep dp d ?_;rintro(e1|e1)
  ·exact ef d Z7 I e1
  obtain⟨cur,f⟩:=cW r.o e1;exact ef d f I rfl
 have N:=X.c0;rw[c] at N;have b1:=v5.c1;rw[<-hn] at b1;generalize s.ws[j]=x9 at u;generalize GP n=gp at F u;generalize GW t=gw at N b1 u;clear h hb P g c l o z hi A hn it B oJ fF tj C D R S V b W d v5 X I8 r jA G m Aj Z7;go_enter func186,ntmps186;go_wp2_with fail
 go_region
 all_goals
  clear cR Tx N;go_wp2_with fail
  go_region_with (go_at_call 265;refine u.j.m ?_;rintro e w' ⟨⟨x,rfl⟩,HR⟩)
  all_goals
   go_wp2
   go_end0;exact⟨⟨_,rfl⟩,HR.j⟩
theorem acC(h:eQ U w xb s)(j:s.ps.length<1000000)(n)(hn:af n)(b):Zk 126 #[M xb,O n,.bool b] w λe w'=>Zr e (O (zQ s n))/\eQ U w' xb (qm s n b)/\Zn U w w':=by
 have c:=Y h;have⟨hb,mp,mw,DP,DW,GP,GW,Q,h⟩:=h;have c0:=h.c0;by_cases a1:n<0
 ·have e1:zQ s n=1:=if_pos a1;have a:qm s n b=s:=if_neg (by rw[e1];decide);rw[e1,a];go_enter func126,ntmps126;go_wp2_with fail;all_goals
   go_ret;exact⟨rfl,c.j,H.refl _ _⟩
 cases hi:pF s.ps n with
 |some i=>
  have hk:=h.XS hi hn;have e1:zQ s n=7:=by unfold zQ;rw[if_neg a1,hi];rfl
  have a:qm s n b=s:=if_neg (by rw[e1];decide);rw[e1,a];generalize GP n=g at hk;go_enter func126,ntmps126;go_wp2_with fail;all_goals
   go_ret;exact⟨rfl,c.j,H.refl _ _⟩
 |none=>
  have hk:=h.XT hi hn;have e1:zQ s n=0:=by unfold zQ;rw[if_neg a1,hi];rfl
  have a:qm s n b=⟨s.ps++[⟨n,b,0⟩],s.ws⟩:=if_pos e1;rw[e1,a];have d:Zq w (w.alloc (.cells (qy ⟨n,b,0⟩ (.slice none 0 0)) 306)):=(H.refl _ w).alloc _;have h1:=h.quiet d;have k:(w.alloc (.cells (qy ⟨n,b,0⟩ (.slice none 0 0)) 306)).heap[w.heap.size]?=some (.cells (qy ⟨n,b,0⟩ (.slice none 0 0)) 306 (0,0)):=heap_alloc_last w _;have⟨w3,l,m,o⟩:=h1.pm.put (t:=216) (e:=298) underlying216 (by rw[List.length_map];unfold maxLen;omega) n hn (λq=>by obtain⟨i,f⟩:=Dz.2 q;rw[hi] at f;cases f) w.heap.size;have⟨⟨y,r⟩,u⟩:=h1.opened hb hi b k (λp hp e=>by have:=aB (h.pb p hp);omega) (λhu=>by have:=h.low _ hu;omega) m o j;have v:Hid (eQ U w3 xb ⟨s.ps++[⟨n,b,0⟩],s.ws⟩/\Zn U w w3):=⟨⟨hb.opened hn hi b,_,_,_,_,_,_,_,r⟩,(d.f).trans u⟩;have x:(Instr.mapUpdate 216 (.map (some mp)) (O n) (M w.heap.size)).run prog (w.alloc (.cells #[.bool b,J 0,.slice none 0 0] 306))=.ok () w3:=l;have zj:=h1.c0;go_enter func126,ntmps126;go_wp2_with fail;all_goals
   go_ret;exact⟨rfl,v.j⟩
theorem ack(h:eQ U w xb s)(t)(ht:af t):Zk 67 #[M xb,O t] w λe w'=>Zr e (.tuple #[O (yu s t),O (Dk s t)])/\Zq w w':=by
 have⟨hb,mp,mw,DP,DW,GP,GW,Q,h⟩:=h;have c1:=h.c1;cases hi:tF s.ws t with
 |none=>
  have hk:=h.XR hi ht;have e1:yu s t= -1:=by unfold yu;rw[hi]
  have a:Dk s t=0:=by unfold Dk;rw[hi]
  rw[e1,a];go_enter func67,ntmps67;go_wp2_with fail;refine bodyPost_ret (v:=.tuple #[O (-1),O 0]) ?_ rfl ⟨rfl,H.refl _ _⟩;simp[results,results67,go_sem]
 |some i=>
  have hk:=h.XQ hi ht;have⟨f,j,hp,k,b,l⟩:=h.waiter hi;have c:=b.c1;have d:=b.c2;have e1:yu s t=s.ws[i].at':=by unfold yu;rw[hi];dsimp only;rw[hp]
  have a:Dk s t=s.ws[i].how:=by unfold Dk;rw[hi];dsimp only;rw[hp]
  rw[e1,a];generalize s.ws[i].at'=m at c|-;generalize s.ws[i].how=n at d|-;generalize GW t=g at c d hk;clear h hi e1 a hb ht j hp k b l f;go_enter func67,ntmps67;go_wp2_with fail
  first|(go_quiet (fail);go_wp2_with fail)|skip
  refine bodyPost_ret (v:=.tuple #[O m,O n]) ?_ rfl ⟨rfl,by first|exact(H.refl _ _).drewN _|exact H.refl _ _⟩;simp[results,results67,go_sem]
end
theorem aoS(w):Zk 37 #[] w λe w'=>∃xb,Zr e (M xb)/\w.heap.size<=xb/\Hid (eQ (λk=>k<w.heap.size) w' xb ⟨[],[]⟩/\Zq w w'):=by
 have h:= @run_makeMap prog;have g:Hid (eQ (λk=>k<w.heap.size) (((w.alloc (.map #[] 0)).alloc (.map #[] 0)).alloc (.cells #[.map (some w.heap.size),.map (some (w.heap.size+1))] 219)) (w.heap.size+2) ⟨[],[]⟩/\Zq w (((w.alloc (.map #[] 0)).alloc (.map #[] 0)).alloc (.cells #[.map (some w.heap.size),.map (some (w.heap.size+1))] 219))):=by
  have b:Zq (w.alloc (.map #[] 0)) ((w.alloc (.map #[] 0)).alloc (.map #[] 0)):=(H.refl _ _).alloc _;have a:Zq ((w.alloc (.map #[] 0)).alloc (.map #[] 0)) (((w.alloc (.map #[] 0)).alloc (.map #[] 0)).alloc (.cells #[.map (some w.heap.size),.map (some (w.heap.size+1))] 219)):=(H.refl _ _).alloc _;have c:=(i6.made (w.alloc (.map #[] 0)) (λ_=>0)).keep a id;have s1:(w.alloc (.map #[] 0)).heap.size=w.heap.size+1:=by simp
  have s2:((w.alloc (.map #[] 0)).alloc (.map #[] 0)).heap.size=w.heap.size+2:=by simp
  rw[s1] at c;have d:=heap_alloc_last ((w.alloc (.map #[] 0)).alloc (.map #[] 0)) (.cells #[.map (some w.heap.size),.map (some (w.heap.size+1))] 219);rw[s2] at d;have f:=(((H.refl _ w).alloc _).trans b).trans a;refine⟨⟨lX.nil,w.heap.size,w.heap.size+1,_,_,λ_=>0,λ_=>0,λ_=>.slice none 0 0,d,((i6.made w (λ_=>0)).keep b id).keep a id,c,Z,(λp hp=>by cases hp),(λp hp=>by cases hp),(λp hp=>by cases hp),(λp hp=>by cases hp),(λp hp=>by cases hp),(λp hp=>by cases hp),Z,Z,Z,(λp hp=>by cases hp),(λp hp=>by cases hp),(λp hp=>by cases hp),(λk hk=>Nat.lt_of_lt_of_le hk f.size),Nat.zero_le _,Nat.zero_le _⟩,f⟩
 go_enter func37,ntmps37;go_wp2;go_ret;exact⟨w.heap.size+2,by first|rfl|simp,Z,g⟩
end Go.Proofs.YtdjlkahbpdoemaaGreatDoor

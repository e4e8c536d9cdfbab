import Derived.Test.YtphkconoooeidaaGreatDoorCp1
set_option maxRecDepth 100000
set_option maxHeartbeats 8000000
set_option linter.unusedVariables false
set_option linter.unusedSimpArgs false
open Go Go.Vx Go.Proofs.Tryz Go.ChangeShapes Go.WideShapes Go.ChangeAt Go.RowKit
namespace Go.Vx
section
variable {α:Type}
theorem ai.row {L:Lay α} {w:World} {base g n c:Nat} {e:TypeId} {xs:List α} (h:ai L w base e (Zs g n c) xs):∃cur,w.heap[g]?=some (.cells cur e (0,0))/\∀(k:Nat) (hk:k<xs.length) (j:Nat),j<L.sz->cur[k*L.sz+j]?=(L.cf xs[k])[j]?:=by
 rcases h.2 with⟨h',_⟩|⟨g',ahh,cur,h',_,hg,_,_,_,Ds⟩
 ·simp at h'
 ·simp only[Value.slice.injEq,Option.some.injEq,Addr.mk.injEq,and_true] at h';obtain⟨rfl,_⟩:=h';refine⟨cur,hg,λk hk j hj=>?_⟩;have h1:=vh L xs k j hk hj
  have h2:k*L.sz+j<xs.length*L.sz:=by
   have:(k+1)*L.sz<=xs.length*L.sz:=Nat.mul_le_mul_right _ hk;rw[Nat.add_mul] at this;omega
  rw[<-Ds,List.getElem?_take,if_pos h2] at h1;simpa using h1
theorem ai.eR {L:Lay α} {w:World} {base:Nat} {e:TypeId} {v:Value} {xs:List α} (h:ai L w base e v xs) {k:Nat} (hk:v.ownBlock=some k):base<=k/\(∃cur,w.heap[k]?=some (.cells cur e (0,0)))/\∃n c,v=Zs k n c:=by
 rcases h.2 with⟨hv,_⟩|⟨g,cap,cur,hv,hb,hg,_⟩
 ·rw[hv] at hk;cases hk
 ·rw[hv] at hk;have:g=k:=by simpa[Value.ownBlock] using hk
  subst this;exact⟨hb,⟨cur,hg⟩,_,_,hv⟩
abbrev Sh:=Option Addr×Nat×Nat
def xJ (s:Sh):Value:=.slice s.1 s.2.1 s.2.2
def mV:Lay Sh:=⟨λs=>[xJ s],1,λ_=>rfl,λa u hu=>by simp only[List.mem_cons,List.not_mem_nil,or_false] at hu;rw[hu];rfl,Zd⟩
def MkG (e:TypeId) (sz:Nat) (B:Nat->Prop) (w:World) (c:Int) (s:Sh):Prop:=s.2.1<=3000000/\(0<s.2.1->∃g cur,s.1=some ⟨g,0,none⟩/\B g/\w.heap[g]?=some (.cells cur e (0,0))/\∀k,k<s.2.1->cur[k*sz]?=some (Zi c))
structure BkG (e e1:TypeId) (sz:Nat) (B:Nat->Prop) (w:World) (v:Value) (ss:List Sh):Prop where
 own:ai mV w 0 e1 v ss
 jB:∀k,v.ownBlock=some k->B k
 marks:∀(i:Nat) (h:i<ss.length),MkG e sz B w (-77 - ((i/2:Nat):Int)) ss[i]
 even:ss.length % 2=0
structure OmA (L:Lay α) (e:TypeId) (m:α) (w:World) (mb base:Nat) (l:Value) (N i:Nat) (wr:World):Prop where
 ex:∃ms,ai L wr base e l ms/\ms.length=N/\∀k,k<i->ms[k]?=some m
 mk':wr.heap[mb]?=some (.cells (L.cf m).toArray e (0,0))
 on:ae (λk=>l.ownBlock=some k) w wr
structure OmB (L:Lay α) (e:TypeId) (m:α) (w:World) (mb base:Nat) (l:Value) (N j:Nat) (x:Value) (wr:World):Prop where
 own:ai L wr base e x (List.replicate (N+j) m)
 J0:0<N->∃g cur,(l.ownBlock=some g/\∃n c',l=Zs g n c')/\wr.heap[g]?=some (.cells cur e (0,0))/\∀k,k<N->cur[k*L.sz]?=(L.cf m)[0]?
 mk':wr.heap[mb]?=some (.cells (L.cf m).toArray e (0,0))
 on:ae (λk=>l.ownBlock=some k) w wr
 xw:∀k,x.ownBlock=some k->l.ownBlock=some k\/mb<k
end
section
variable {α:Type}
def zj (e:TypeId) (sz mo:Nat) (B:Nat->Prop) (w:World) (c:Int) (s:Sh):Prop:=s.2.1<=3000000/\(0<s.2.1->∃g cur,s.1=some ⟨g,0,none⟩/\B g/\w.heap[g]?=some (.cells cur e (0,0))/\∀k,k<s.2.1->cur[k*sz+mo]?=some (Zi c))
theorem zj.keep {e:TypeId} {sz mo:Nat} {B C:Nat->Prop} {w w':World} {c:Int} {s:Sh} (h:zj e sz mo B w c s) (hk:∀g cur,B g->w.heap[g]?=some (.cells cur e (0,0))->w'.heap[g]?=w.heap[g]?) (wS:∀k,B k->C k):zj e sz mo C w' c s:=by
 refine⟨h.1,λh0=>?_⟩;obtain⟨g,cur,hp,hg,hl,hc⟩:=h.2 h0;exact⟨g,cur,hp,wS g hg,by rw[hk g cur hg hl];exact hl,hc⟩
structure pH (e e1:TypeId) (sz mo:Nat) (B:Nat->Prop) (w:World) (v:Value) (ss:List Sh):Prop where
 own:ai mV w 0 e1 v ss
 jB:∀k,v.ownBlock=some k->B k
 marks:∀(i:Nat) (h:i<ss.length),zj e sz mo B w (-77 - ((i/2:Nat):Int)) ss[i]
 even:ss.length % 2=0
theorem pH.nil (e e1:TypeId) (sz mo:Nat) (B:Nat->Prop) (w:World):pH e e1 sz mo B w (.slice none 0 0) []:=⟨ai.nil _ _ _ _,(λk hk=>by cases hk),(λi h=>by cases h),rfl⟩
theorem pH.keep {e e1:TypeId} {sz mo:Nat} {B C:Nat->Prop} {w w':World} {v:Value} {ss:List Sh} (h:pH e e1 sz mo B w v ss) (hk:∀g cur T,B g->(T=e\/T=e1)->w.heap[g]?=some (.cells cur T (0,0))->w'.heap[g]?=w.heap[g]?) (wS:∀k,B k->C k):pH e e1 sz mo C w' v ss:=by
 refine⟨⟨h.own.1,h.own.2.imp (λh=>h) (λ⟨g,cap,cur,a,b,c,d⟩=>⟨g,cap,cur,a,b,?_,d⟩)⟩,λk hv=>wS k (h.jB k hv),λi hi=>(h.marks i hi).keep (λg cur hg hl=>hk g cur e hg (Or.inl rfl) hl) wS,h.even⟩;rw[hk g cur e1 (h.jB g (by rw[a];rfl)) (Or.inr rfl) c];exact c
theorem pH.only {e e1:TypeId} {sz mo:Nat} {B C S:Nat->Prop} {w w':World} {v:Value} {ss:List Sh} (h:pH e e1 sz mo B w v ss) (ho:ae S w w') (hS:∀k,B k->¬S k) (wS:∀k,B k->C k):pH e e1 sz mo C w' v ss:=
 h.keep (λg cur T hg _ hl=>ho.block g (au hl) (hS g hg)) wS
theorem pH.push {e e1:TypeId} {sz mo:Nat} {B C:Nat->Prop} {w4 w5:World} {v v':Value} {ss:List Sh} {c:Int} {s1 s2:Sh} (hk:pH e e1 sz mo B w4 v ss) (Gd:ai mV w5 0 e1 v' (ss++[s1,s2])) (hb:∀k,v'.ownBlock=some k->C k)
  (hm:∀g cur,C g->w4.heap[g]?=some (.cells cur e (0,0))->w5.heap[g]?=w4.heap[g]?) (wS:∀k,B k->C k) (h1:zj e sz mo C w4 c s1) (h2:zj e sz mo C w4 c s2) (hc:c= -77 - ((ss.length/2:Nat):Int)):pH e e1 sz mo C w5 v' (ss++[s1,s2]):=by
 have hlen:(ss++[s1,s2]).length=ss.length+2:=by simp
 have he:=hk.even;refine⟨Gd,hb,λi hi=>?_,by rw[hlen];omega⟩;rw[hlen] at hi;by_cases h0:i<ss.length
 ·rw[List.getElem_append_left h0];exact(hk.marks i h0).keep (λg' cur hB hh=>hm g' cur (wS _ hB) hh) wS
 ·have gj:i/2=ss.length/2:=Zo;rw[gj,<-hc];by_cases h3:i=ss.length
  ·subst h3;rw[List.getElem_append_right (Nat.le_refl _)];simp only[Nat.sub_self];exact h1.keep hm (λ_ h=>h)
  ·have h4:i=ss.length+1:=Zo;subst h4;rw[List.getElem_append_right Zo];simp only[show ss.length+1 - ss.length=1 from Zo];exact h2.keep hm (λ_ h=>h)
theorem pH.at {e e1:TypeId} {sz mo:Nat} {B:Nat->Prop} {w:World} {v:Value} {ss:List Sh} (h:pH e e1 sz mo B w v ss):∃p c,v=.slice p ss.length c/\∀(i:Nat) (hi:i<ss.length),∃g,p=some ⟨g,0,none⟩/\w.cell? ⟨g,i,none⟩=some (xJ ss[i]):=by
 obtain⟨p,c,rfl,_,_,hg⟩:=h.own.form;refine⟨p,c,rfl,λi hi=>?_⟩;obtain⟨g,rfl,_⟩:=hg Zo;have h1:=h.own.cell i 0 hi Zd;refine⟨g,rfl,?_⟩;have h2:i*mV.sz+0=i:=by show i*1+0=i;omega
 rw[h2] at h1;exact h1
structure pn (L:Lay α) (e:TypeId) (m:α) (w:World) (base:Nat) (l:Value) (N i:Nat) (wr:World):Prop where
 ex:∃ms,ai L wr base e l ms/\ms.length=N/\∀k,k<i->ms[k]?=some m
 on:ae (λk=>l.ownBlock=some k) w wr
structure oC (mo:Nat) (L:Lay α) (e:TypeId) (m:α) (w:World) (mb base:Nat) (l:Value) (N j:Nat) (x:Value) (wr:World):Prop where
 own:ai L wr base e x (List.replicate (N+j) m)
 J0:0<N->∃g cur,(l.ownBlock=some g/\∃n c',l=Zs g n c')/\wr.heap[g]?=some (.cells cur e (0,0))/\∀k,k<N->cur[k*L.sz+mo]?=(L.cf m)[mo]?
 on:ae (λk=>l.ownBlock=some k) w wr
 xw:∀k,x.ownBlock=some k->l.ownBlock=some k\/mb<k
theorem EF {L:Lay α} {e:TypeId} {m:α} {w:World} {mb base N mo:Nat} {l:Value} {wr:World} (h0:mo<L.sz) (h:pn L e m w base l N N wr):oC mo L e m w mb base l N 0 l wr:=by
 obtain⟨ms,ho,hn,hm⟩:=h.ex
 have cL:ms=List.replicate N m:=by
  apply List.ext_getElem?;intro k;by_cases hk:k<N
  ·rw[hm k hk];simp[hk]
  ·rw[List.getElem?_eq_none Zo];simp[hk]
 refine⟨by rw[Nat.add_zero,<-cL];exact ho,λhN=>?_,h.on,λk hk=>Or.inl hk⟩;obtain⟨p,cc,hv,_,_,hp⟩:=ho.form;obtain⟨g,hg,_,_,az⟩:=hp Zo;have hl:l=Zs g ms.length cc:=by rw[hv,hg]
 rw[hl] at ho;obtain⟨cur,sy,hc⟩:=ho.row;refine⟨g,cur,⟨az,_,_,hl⟩,sy,λk hk=>?_⟩;have:=hc k Zo mo h0;rw[this];subst cL;simp
theorem oC.push {L:Lay α} {e:TypeId} {m:α} {w:World} {mb base N j mo:Nat} {l x x':Value} {wr wx:World} (h0:mo<L.sz) (h:oC mo L e m w mb base l N j x wr) (ho:ai L wx base e x' (List.replicate (N+j) m++[m])) (ay:ae (λk=>x.ownBlock=some k) wr wx)
  (hg:x'.ownBlock=x.ownBlock\/∃g,x'.ownBlock=some g/\wr.heap.size<=g/\Zq wr wx) (rE:w.heap.size<=mb+1) (agS:mb<wr.heap.size):oC mo L e m w mb base l N (j+1) x' wx:=by
 have cL:List.replicate (N+j) m++[m]=List.replicate (N+(j+1)) m:=by
  rw[<-Nat.add_assoc,List.replicate_succ']
 rw[cL] at ho;refine⟨ho,λhN=>?_,?_,λk hk=>?_⟩
 ·obtain⟨gl,cur,fW,sy,hc⟩:=h.J0 hN;by_cases hx:x.ownBlock=some gl
  ·rcases hg with hg|⟨g,hg,_,hf⟩
   ·obtain⟨_,_,n,c,hv⟩:=ho.eR (k:=gl) (by rw[hg];exact hx);rw[hv] at ho;obtain⟨lx,aeu,bH⟩:=ho.row;refine⟨gl,lx,fW,aeu,λk hk=>?_⟩;have:=bH k (by simp;omega) mo h0;rw[this];simp
   ·exact⟨gl,cur,fW,by rw[hf.block gl (au sy) (λh=>h)];exact sy,hc⟩
  ·exact⟨gl,cur,fW,by rw[ay.block gl (au sy) hx];exact sy,hc⟩
 ·refine⟨ay.os.trans h.on.os,ay.tape.trans h.on.tape,ay.output.trans h.on.output,Nat.le_trans h.on.size ay.size,λk hk hn=>(ay.block k (Nat.lt_of_lt_of_le hk h.on.size) (λhx=>?_)).trans (h.on.block k hk hn)⟩;rcases h.xw k hx with h1|h1
  ·exact hn h1
  ·omega
 ·rcases hg with hg|⟨g,hg,hs,_⟩
  ·exact h.xw k (by rw[<-hg];exact hk)
  ·rw[hg] at hk;injection hk with hk
   exact Or.inr Zo
theorem oC.marks {L:Lay α} {e:TypeId} {m:α} {w:World} {mb base N j mo:Nat} {l x:Value} {pl px:Option Addr} {cl cx:Nat} {wr:World} {c:Int} (h0:mo<L.sz) (h:oC mo L e m w mb base l N j x wr) (hl:l=.slice pl N cl) (hx:x=.slice px (N+j) cx) (hN:N+j<=3000000) (oW:(L.cf m)[mo]?=some (Zi c)) {C:Nat->Prop}
  (hC:∀k cur,wr.heap[k]?=some (.cells cur e (0,0))->(l.ownBlock=some k\/mb<k)->C k):zj e L.sz mo C wr c (pl,N,cl)/\zj e L.sz mo C wr c (px,N+j,cx):=by
 refine⟨⟨by show N<=_;omega,λhp=>?_⟩,⟨by show N+j<=_;omega,λhp=>?_⟩⟩
 ·obtain⟨g,cur,fW,sy,hc⟩:=h.J0 hp;refine⟨g,cur,?_,hC g cur sy (Or.inl fW.1),sy,λk hk=>by rw[hc k hk,oW]⟩;show pl=_;obtain⟨n,c',hle⟩:=fW.2;rw[hl] at hle;injection hle
 ·obtain⟨p,cc,hv,_,_,hg⟩:=h.own.form;rw[List.length_replicate] at hv hg;obtain⟨g,lQ,_,_,az⟩:=hg (by simpa using hp);rw[hx] at hv;injection hv with bc _ bB
  have uR:=h.own;rw[hx,bc,lQ] at uR;obtain⟨cur,sy,hc⟩:=uR.row;refine⟨g,cur,by show px=_;rw[bc,lQ],hC g cur sy (h.xw g az),sy,λk hk=>?_⟩;have dA:k<N+j:=hk;have:=hc k (by simpa using dA) mo h0;rw[this,<-oW];simp
end
theorem Ex {P:Program} {t e:TypeId} (hk:Kind P mV t e) (w:World) {ops:Array Oper} {rest:List Oper} {o:Oper} {a:Act} {Q:Exit->Act->World->Prop} (fu:o.guard=none) (s x:Operand)
  (ho:o.op=.call {callee:=.builtin .append,args:=#[s,x],argTypes:=#[t,t]}) (v:Value) (ss:List Sh) (hs:a.eval s=v) (jF:ai mV w 0 e v ss) (s1 s2:Sh) (v1 v2:Value) (h1:v1=xJ s1) (h2:v2=xJ s2) {b:Nat} (hb:b=w.heap.size) (hx:a.eval x=Zs b 2 2) (hlen:ss.length<=1000000)
  (h:∀v' w',ai mV w' 0 e v' (ss++[s1,s2])->ae (λk=>v.ownBlock=some k) w w'->(v'.ownBlock=v.ownBlock\/∃g,v'.ownBlock=some g/\w.heap.size<=g/\Zq w w')->wpList P ops Q rest (a.put o.dst v') w'):wpList P ops Q (o::rest) a (w.alloc (.cells #[v1,v2] e)):=by
 subst hb h1 h2;have ha:Zq w (w.alloc (.cells #[xJ s1,xJ s2] e)):=(ae.refl _ w).alloc _;refine CH hk _ fu s x ho 0 v ss hs (jF.kept ha (λ_ _ h=>h)) (some ⟨w.heap.size,0,none⟩) 2 2 [s1,s2] hx rfl (λ_=>⟨_,rfl,λj u hj=>?_⟩) (by simp only[List.length_cons,List.length_nil];omega) (Nat.zero_le _) (λv' w' h1 h2 h3=>?_)
 ·rw[pY,Nat.zero_add,cell_of_row _ _ j _ _ (0,0) (heap_alloc_last w _)];have wJ:[xJ s1,xJ s2][j]?=some u:=hj;simpa using wJ
 ·refine h v' w' h1 ((ha.f).trans h2) ?_;rcases h3 with h3|⟨g,h3,h4,h5⟩
  ·exact Or.inl h3
  ·exact Or.inr ⟨g,h3,Nat.le_trans ha.size h4,ha.trans h5⟩
end Go.Vx
namespace Go.Proofs.YtphkconoooeidaaGreatDoor
section
def Ew:Nat->TypeId|0=>3|1=>95|2=>232|3=>85|4=>208|_=>203
def A3:Nat->TypeId|0=>196|1=>230|2=>221|3=>126|4=>58|_=>121
def Ie:Nat->Nat|0=>1|1=>2|2=>3|3=>2|4=>12|_=>41
def o8:Nat->Nat|0=>0|1=>0|2=>1|3=>1|4=>0|_=>0
theorem Mu:∀j,j<6->∀k,k<6->A3 j≠Ew k/\(j≠k->A3 j≠A3 k):=Zd
def fh {β:Type} (f:Nat->β) (j:Nat) (x:β):Nat->β:=λk=>if k=j then x else f k
theorem I0 {β:Type} (f:Nat->β) (j:Nat) (x:β):fh f j x j=x:=if_pos rfl
theorem IY {β:Type} (f:Nat->β) {j k:Nat} (x:β) (h:k≠j):fh f j x k=f k:=if_neg h
structure gI (B:Nat->Prop) (w:World) (bb o:Nat) (T:TypeId) (cs:Array Value) (V:Nat->Value) (L:Nat->List Sh):Prop where
 bl:w.heap[bb]?=some (.cells cs T (0,0))
 c:∀j,j<6->cs[o+j]?=some (V j)
 k:∀j,j<6->pH (Ew j) (A3 j) (Ie j) (o8 j) B w (V j) (L j)
 nb:¬B bb
variable {B C S:Nat->Prop} {w w2:World} {bb o:Nat} {T:TypeId} {cs:Array Value} {V:Nat->Value} {L:Nat->List Sh}
theorem gI.only (h:gI B w bb o T cs V L) (ho:ae S w w2) (hS:∀k,B k->¬S k) (hb:¬S bb):gI B w2 bb o T cs V L:=
 ⟨by rw[ho.block bb (au h.bl) hb];exact h.bl,h.c,λj hj=>(h.k j hj).only ho hS (λ_ h=>h),h.nb⟩
theorem gI.cell (h:gI B w bb o T cs V L) {j:Nat} (hj:j<6):w.cell? ⟨bb,o+j,none⟩=some (V j):=(cell_of_row _ _ (o+j) _ _ (0,0) h.bl).trans (h.c j hj)
theorem gI.fz (h:gI B w bb o T cs V L) (j:Nat):w.frozen? ⟨bb,j,none⟩=false:=by have:=h.bl;simp[World.frozen?,this]
theorem gI.nil (hb:w.heap[bb]?=some (.cells cs T (0,0))) (hc:∀j,j<6->cs[o+j]?=some (.slice none 0 0)):gI (λ_=>False) w bb o T cs (λ_=>.slice none 0 0) (λ_=>[]):=
 ⟨hb,hc,λj hj=>pH.nil _ _ _ _ _ _,λh=>h⟩
theorem gI.push {α:Type} {La:Lay α} {m:α} {j:Nat} (hj:j<6) {wr w5:World} {l xv v2:Value} {mb base N cl cx:Nat} {pl px:Option Addr} {c:Int} (hk:gI B w bb o T cs V L) (aR:La.sz=Ie j) (wH:o8 j<La.sz) (h:oC (o8 j) La (Ew j) m w mb base l N 33 xv wr) (hl:l=.slice pl N cl) (hx:xv=.slice px (N+33) cx) (hN:N<=2000000)
  (oW:(La.cf m)[o8 j]?=some (Zi c)) (hc:c= -77 - (((L j).length/2:Nat):Int)) (kj:∀k,l.ownBlock=some k->¬B k/\k≠bb) (rE:w.heap.size<=mb+1) (Gd:ai mV w5 0 (A3 j) v2 (L j++[(pl,N,cl),(px,N+33,cx)])) (ay:ae (λk=>(V j).ownBlock=some k) wr w5)
  (hg:v2.ownBlock=(V j).ownBlock\/∃g,v2.ownBlock=some g/\wr.heap.size<=g/\Zq wr w5):
  gI (λk=>B k\/l.ownBlock=some k\/(w.heap.size<=k/\k<w5.heap.size)) (w5.setCell ⟨bb,o+j,none⟩ v2) bb o T (cs.setIfInBounds (o+j) v2) (fh V j v2) (fh L j (L j++[(pl,N,cl),(px,N+33,cx)]))/\ae (λk=>B k\/l.ownBlock=some k\/k=bb) w (w5.setCell ⟨bb,o+j,none⟩ v2):=by
 have h4:gI B wr bb o T cs V L:=hk.only h.on (λk hb hs=>(kj k hs).1 hb) (λhs=>(kj bb hs).2 rfl);have gn:=au hk.bl;have Kp:∀k,(V j).ownBlock=some k->k≠bb:=λk hv e=>hk.nb (by rw[<-e];exact(hk.k j hj).jB k hv)
 have pO:∀k,(V j).ownBlock=some k->∃cur,wr.heap[k]?=some (.cells cur (A3 j) (0,0)):=λk hv=>((h4.k j hj).own.eR hv).2.1
 have h5b:w5.heap[bb]?=some (.cells cs T (0,0)):=by
  rw[ay.block bb (au h4.bl) (λhv=>Kp bb hv rfl)];exact h4.bl
 have RF:¬(B bb\/l.ownBlock=some bb\/(w.heap.size<=bb/\bb<w5.heap.size)):=by
  rintro(h1|h1|h1)
  ·exact hk.nb h1
  ·exact(kj bb h1).2 rfl
  ·omega
 have hC:∀k cur,wr.heap[k]?=some (.cells cur (Ew j) (0,0))->(l.ownBlock=some k\/mb<k)->(B k\/l.ownBlock=some k\/(w.heap.size<=k/\k<w5.heap.size)):=λk cur iC h2=>by
  rcases h2 with h2|h2
  ·exact Or.inr (Or.inl h2)
  ·have h3:=au iC;have h6:=ay.size;exact Or.inr (Or.inr ⟨Zo,Zo⟩)
 obtain⟨m1,m2⟩:=h.marks wH hl hx Zo oW hC;rw[aR] at m1 m2;have Rg:∀k,k≠bb->(w5.setCell ⟨bb,o+j,none⟩ v2).heap[k]?=w5.heap[k]?:=λk jV=>RowKit.Below.heap_setCell _ _ _ _ (λe=>jV e)
 have hs:pH (Ew j) (A3 j) (Ie j) (o8 j) (λk=>B k\/l.ownBlock=some k\/(w.heap.size<=k/\k<w5.heap.size)) w5 v2 (L j++[(pl,N,cl),(px,N+33,cx)]):=by
  refine(h4.k j hj).push Gd (λk hv=>?_) (λg cur SD hh=>ay.block g (au hh) (λhv=>?_)) (λk hb=>Or.inl hb) m1 m2 hc
  ·rcases hg with hg|⟨g,hg,DV,_⟩
   ·exact Or.inl ((hk.k j hj).jB k (by rw[<-hg];exact hv))
   ·have h7:=(Gd.eR hv).2.1;obtain⟨_,h7⟩:=h7;have h8:=au h7;rw[hg] at hv;injection hv with hv
    have h9:=h.on.size;exact Or.inr (Or.inr ⟨Zo,h8⟩)
  ·obtain⟨lx,h7⟩:=pO g hv;exact cE h7 hh (Mu j hj j hj).1 rfl
 refine⟨⟨?_,λi hi=>?_,λi hi=>?_,RF⟩,?_⟩
 ·exact heap_setCell_same _ _ (o+j) _ _ v2 h5b
 ·by_cases lj:i=j
  ·subst lj;rw[I0,Array.getElem?_setIfInBounds_self_of_lt];exact(Array.getElem?_eq_some_iff.1 (hk.c i hi)).1
  ·rw[IY _ _ lj,Array.getElem?_setIfInBounds_ne Zo];exact hk.c i hi
 ·by_cases lj:i=j
  ·subst lj;rw[I0,I0];exact hs.keep (λg cur T SD _ hh=>Rg g (λe=>RF (by rw[<-e];exact SD))) (λ_ h=>h)
  ·rw[IY _ _ lj,IY _ _ lj];refine(h4.k i hi).keep (λg cur T hB hT hh=>?_) (λk hb=>Or.inl hb);rw[Rg g (λe=>hk.nb (by rw[<-e];exact hB))];refine ay.block g (au hh) (λhv=>?_);obtain⟨lx,h7⟩:=pO g hv;rcases hT with rfl|rfl
   ·exact cE h7 hh (Mu j hj i hi).1 rfl
   ·exact cE h7 hh ((Mu j hj i hi).2 (λe=>lj e.symm)) rfl
 ·have o5:ae (λk=>B k\/l.ownBlock=some k\/k=bb) w w5:=(h.on.mono (λ_ _ h=>Or.inr (Or.inl h))).trans (ay.mono (λk _ hv=>Or.inl ((hk.k j hj).jB k hv)));exact ae.setCell (S:=λk=>B k\/l.ownBlock=some k\/k=bb) o5 (p:=⟨bb,o+j,none⟩) (Or.inl (Or.inr (Or.inr rfl))) _
end
section
variable {B:Nat->Prop} {w:World} {bb o:Nat} {T:TypeId} {cs:Array Value} {V:Nat->Value} {L:Nat->List Sh}
theorem bk0:Kind prog mV 42 196:=kG (z:=.slice none 0 0) (b:=24) underlying42 Zx rfl Zd
theorem adN:Kind prog cO 196 3:=kG (z:=Zi 0) (b:=8) underlying196 Zx rfl Zd
def vW (c:Int):Int:=c
theorem aal {w:World} {base g c m:Nat} {T:TypeId} {xs:List Int} (h:ai cO w base T (Zs g m c) xs) (hm:m=xs.length) (k:Nat) (hk:k<xs.length) (y:Int):
  ai cO (w.setCell ⟨g,k,none⟩ (Zi y)) base T (Zs g m c) (xs.set k y)/\ae (λb=>b=g) w (w.setCell ⟨g,k,none⟩ (Zi y)):=by
 subst hm;have h1:=(World.ownsRow.stored h k (Zi y)).1;refine⟨?_,ae.setCell (S:=λb=>b=g) (ae.refl _ w) (Or.inl rfl) _⟩
 have hz:(fl cO xs).set k (Zi y)=fl cO (xs.set k y):=by
  refine AT cO xs k y hk _ (by simp) (λj hj=>?_) (λi hi=>?_)
  ·have wJ:j<1:=hj;have hlen:(fl cO xs).length=xs.length*1:=j8 cO xs;have jD:cO.sz=1:=rfl;obtain rfl:j=0:=Zo;rw[jD,List.getElem?_set,if_pos Zo,if_pos (by rw[hlen];omega)];rfl
  ·have jD:cO.sz=1:=rfl;rw[jD] at hi;rw[List.getElem?_set,if_neg Zo]
 rw[hz] at h1;show World.ownsRow _ _ _ _ _ (xs.set k y).length _;rw[List.length_set];exact h1
theorem aat {base:Nat} {l:Value} {ms:List Int} (hk:gI B w bb o T cs V L) (aR:(L 0).length<=1000000) (hl:ai cO w base 3 l ms) (jb:base<=w.heap.size) (hm:ms.length<=2000000) (kj:∀k,l.ownBlock=some k->¬B k/\k≠bb):
  Zk 81 #[.pointer (some ⟨bb,o,none⟩),l] w λe w'=>Zr e (.tuple #[])/\∃jd v2 s1 s2,gI (λk=>B k\/l.ownBlock=some k\/(w.heap.size<=k/\k<w'.heap.size)) w' bb o T jd (fh V 0 v2) (fh L 0 (L 0++[s1,s2]))/\(∀i,i<o->jd[i]?=cs[i]?)/\ae (λk=>B k\/l.ownBlock=some k\/k=bb) w w':=by
 obtain⟨pl,cl,rfl,_,_,lN⟩:=hl.form;obtain⟨pv,cv,hv,_⟩:=(hk.k 0 Zd).at;have h5:w.cell? ⟨bb,o,none⟩=some (V 0):=hk.cell (j:=0) Zd;obtain⟨Ln,hL⟩:=Ze ((L 0).length);obtain⟨N,hN⟩:=Ze (ms.length);have q0:Int.tdiv (Ln:Int) 2=((Ln/2:Nat):Int):=by rw[Int.tdiv_eq_ediv_of_nonneg Zo];omega
 have iX:(Ln:Int)/2=((Ln/2:Nat):Int):=Zo;have q1:=Zh ((Ln/2:Nat):Int) Zo;obtain⟨c,hc⟩:∃c:Int,c= -77 - ((Ln/2:Nat):Int):=⟨_,rfl⟩
 have q2: -77 - ((Ln/2:Nat):Int)=c:=hc.symm;have q3:=Zh c Zo;rw[<-hN] at kj lN|-
 have sR:Hid (∀k,(Value.slice pl N cl).ownBlock=some k->k<w.heap.size):=λk iC=>by
  obtain⟨_,⟨cur,h⟩,_⟩:=hl.eR (k:=k) (by rw[<-hN];exact iC);exact au h
 have H0:Hid (pn cO 3 (vW c) w base (.slice pl N cl) N 0 (w)):=⟨⟨ms,by rw[hN];exact hl.kept (ae.refl _ _) (λ_ _ h=>h),hN.symm,λk hk=>Zo⟩,ae.refl _ _⟩
 have kB:=aa kj;have gT:=aa lN;have nR:Hid (c= -77 - (((L 0).length/2:Nat):Int)):=by show c=_;rw[hc,hL]
 have HK:=aa hk;have xx:=aa jb;have jY:=aa aR;have HV:Hid (V 0=.slice pv Ln cv):=by show V 0=_;rw[hv,hL]
 have wP:N<=2000000:=Zo;have Hk:(N:Int)<=2000000:=Zo;rw[hv,<-hL] at h5;obtain⟨mb,fa⟩:=Ze (w.heap.size - 1);have fQ:Hid (w.heap.size<=mb+1/\(mb=w.heap.size - 1)):=⟨Zo,fa⟩
 clear hc;generalize Ln/2=q at q0 iX q1 q2;clear hk aR hl jb hm kj lN hN hv hL;go_enter func81,ntmps81;go_wp2_with fail;have af:Hid (mb<w.heap.size):=by show mb<w.heap.size;have:=au HK.j.bl;omega
 clear fa h5
 go_loopw [5] (λd wr=>∃i:Nat,d=Zi (i:Int)/\i<=N/\Hid (mb<wr.heap.size)/\Hid (pn cO 3 (vW c) w base (.slice pl N cl) N i wr)) (λd _=>N - (RowKit.intOf d).toNat)
 case atStart=>exact⟨0,rfl,Zo,af,H0⟩
 case round=>
  clear H0 af;obtain⟨i,rfl,hi,HS,HR⟩:=hrel;by_cases ah:i<N
  ·have d1:(i:Int)<(N:Int):=Zo;have bf:0<=(i:Int)/\(i:Int)<(N:Int):=Zo;have v1:=Zf i Zo;obtain⟨g,rfl,_,_⟩:=gT.j Zo;obtain⟨si,cL,fV,ja⟩:=HR.j.ex;obtain⟨y0,c0⟩:∃y,wr.cell? ⟨g,i,none⟩=some y:=⟨_,by have h9:=cL.cell i 0 Zo Zd;have e9:i*cO.sz+0=i:=Nat.mul_one i;rw[e9] at h9;exact h9.trans rfl⟩
   have f0:=cL.fz (i);have aw:Hid (mb<(wr.setCell ⟨g,i,none⟩ (Zi c)).heap.size):=by show mb<_;simpa using HS.j
   have bW:Hid (pn cO 3 (vW c) w base (Zs g N cl) N (i+1) (wr.setCell ⟨g,i,none⟩ (Zi c))):=by
    obtain⟨s1,s2⟩:=aal cL fV.symm i Zo (vW c);refine⟨⟨si.set i (vW c),s1,by simp[fV],λk hk=>?_⟩,?_⟩
    ·rw[List.getElem?_set];by_cases jn:i=k
     ·rw[if_pos jn,if_pos Zo]
     ·rw[if_neg jn];exact ja k Zo
    ·exact HR.j.on.trans (s2.mono (λk _ hk=>by rw[hk];rfl))
   clear cL fV ja ah HR;go_wp2_with fail;go_roundw
   case rel=>exact⟨i+1,by go_num,Zo,aw,bW⟩
   case measure=>exact Zm
  ·obtain rfl:i=N:=Zo;have d1:¬(i:Int)<(i:Int):=Zo;have nS:Hid (oC (o8 0) cO 3 (vW c) w mb base (.slice pl i cl) i 0 (.slice pl i cl) wr):=EF Zd HR.j;clear ah hi HR;go_wp2_with fail
   go_loopw [6,7] (λy d wr=>∃j:Nat,d=Zi (j:Int)/\j<=33/\Hid (mb<wr.heap.size)/\Hid (oC (o8 0) cO 3 (vW c) w mb base (.slice pl i cl) i j y wr)) (λ_ d _=>33 - (RowKit.intOf d).toNat)
   case atStart=>exact⟨0,rfl,Zo,HS,nS⟩
   case round=>
    clear nS HS;obtain⟨j,rfl,hj,HS,HR⟩:=hrel;by_cases fi:j<33
    ·have d2:(j:Int)<33:=Zo;have v1:=Zf j Zo;have jw:Hid ((List.replicate (i+j) (vW c)).length+1<=10000000):=by show _<=_;simp;omega
     have xu:Hid (base<=wr.heap.size):=Nat.le_trans xx.j HR.j.on.size;clear fi;go_wp2_with (at_builtin;refine mg adN _ rfl _ _ rfl base _ _ rfl HR.j.own (vW c) _ _ rfl rfl rfl jw.j xu.j (λx2 w4 h1 h2 h3=>?_);have bW:=aa (HR.j.push Zd h1 h2 h3 fQ.j.1 HS.j);have aw:Hid (mb<w4.heap.size):=Nat.lt_of_lt_of_le HS.j h2.size;clear h1 h2 h3);go_roundw
     case rel=>exact⟨j+1,by go_num,Zo,aw,bW⟩
     case measure=>exact Zm
    ·obtain rfl:j=33:=Zo;have eB:Hid (gI B wr bb o T cs V L):=HK.j.only HR.j.on (λk hb hs=>(kB.j k hs).1 hb) (λhs=>(kB.j bb hs).2 rfl);have h5:Zc wr bb o (V 0):=eB.j.cell (j:=0) Zd;rw[HV.j] at h5;have pA:Hid (ai mV wr 0 196 (.slice pv Ln cv) (L 0)):=by have:=(eB.j.k 0 Zd).own;rw[HV.j] at this;exact this
     obtain⟨px,cx,hx,_⟩:=HR.j.own.form;rw[List.length_replicate] at hx;subst hx;have mS:=aa eB.j.fz;have kC:=aa eB.j.bl
     have xj:Hid (∀k,(Value.slice pv Ln cv).ownBlock=some k->k≠bb):=λk iC e=>by
      have h8:=(eB.j.k 0 Zd).jB k (by rw[HV.j];exact iC);rw[e] at h8;exact eB.j.nb h8
     clear hj fi;go_wp2_with (at_builtin;refine Ex bk0 _ rfl _ _ rfl _ (L 0) rfl pA.j (pl,i,cl) (px,i+33,cx) _ _ rfl rfl rfl rfl jY.j (λv2 w4 h1 h2 h3=>?_);obtain⟨p2,c2,aP,_⟩:=h1.form;subst aP;have mv:=h2.block bb (au kC.j) (λhv=>xj.j bb hv rfl);have lS:=(World.cell?_of_block (a:=⟨bb,o,none⟩) mv).trans h5;have Hc:=(World.frozen?_of_block (a:=⟨bb,o,none⟩) mv).trans (mS.j (o));have H1:=aa h1;have H2:=aa h2;have H3:=aa h3;clear h1 h2 h3 mv)
     all_goals
      go_end0;refine⟨rfl,?_⟩;have rD:∀u:Value,(w4.setCell ⟨bb,o,none⟩ u).heap.size=w4.heap.size:=λu=>by simp[World.setCell]
      rw[rD];obtain⟨hb,ay⟩:=HK.j.push (j:=0) Zd (La:=cO) rfl Zd HR.j rfl rfl wP rfl nR.j kB.j fQ.j.1 H1.j (by rw[HV.j];exact H2.j) (by rw[HV.j];exact H3.j);have Az:(L 0++[(pl,i,cl),(px,i+33,cx)]).length=(L 0).length+2:=by simp
      refine⟨_,_,_,_,by simpa using hb,λi hi=>?_,by simpa using ay⟩;rw[Array.getElem?_setIfInBounds_ne Zo]
end
section
variable {B:Nat->Prop} {w:World} {bb o:Nat} {T:TypeId} {cs:Array Value} {V:Nat->Value} {L:Nat->List Sh}
theorem bk3:Kind prog mV 45 126:=kG (z:=.slice none 0 0) (b:=24) underlying45 Zx rfl Zd
theorem aaW:Kind prog aJ 126 85:=kG (z:=.agg #[Zi 0,Zi 0]) (b:=16) underlying126 Zx rfl Zd
def uJ (c:Int):Sl:=(0,c)
theorem aap {base:Nat} {l:Value} {ms:List Sl} (hk:gI B w bb o T cs V L) (aR:(L 3).length<=1000000) (hl:ai aJ w base 85 l ms) (jb:base<=w.heap.size) (hm:ms.length<=2000000) (kj:∀k,l.ownBlock=some k->¬B k/\k≠bb):
  Zk 30 #[.pointer (some ⟨bb,o,none⟩),l] w λe w'=>Zr e (.tuple #[])/\∃jd v2 s1 s2,gI (λk=>B k\/l.ownBlock=some k\/(w.heap.size<=k/\k<w'.heap.size)) w' bb o T jd (fh V 3 v2) (fh L 3 (L 3++[s1,s2]))/\(∀i,i<o->jd[i]?=cs[i]?)/\ae (λk=>B k\/l.ownBlock=some k\/k=bb) w w':=by
 obtain⟨pl,cl,rfl,_,_,lN⟩:=hl.form;obtain⟨pv,cv,hv,_⟩:=(hk.k 3 Zd).at;have h5:w.cell? ⟨bb,o+3,none⟩=some (V 3):=hk.cell (j:=3) Zd;obtain⟨Ln,hL⟩:=Ze ((L 3).length);obtain⟨N,hN⟩:=Ze (ms.length);have q0:Int.tdiv (Ln:Int) 2=((Ln/2:Nat):Int):=by rw[Int.tdiv_eq_ediv_of_nonneg Zo];omega
 have iX:(Ln:Int)/2=((Ln/2:Nat):Int):=Zo;have q1:=Zh ((Ln/2:Nat):Int) Zo;obtain⟨c,hc⟩:∃c:Int,c= -77 - ((Ln/2:Nat):Int):=⟨_,rfl⟩
 have q2: -77 - ((Ln/2:Nat):Int)=c:=hc.symm;have q3:=Zh c Zo;rw[<-hN] at kj lN|-
 have sR:Hid (∀k,(Value.slice pl N cl).ownBlock=some k->k<w.heap.size):=λk iC=>by
  obtain⟨_,⟨cur,h⟩,_⟩:=hl.eR (k:=k) (by rw[<-hN];exact iC);exact au h
 have H0:Hid (pn aJ 85 (uJ c) w base (.slice pl N cl) N 0 (w.alloc (.cells #[Zi 0,Zi c] 85))):=⟨⟨ms,by rw[hN];exact hl.kept ((ae.refl _ _).alloc _) (λ_ _ h=>h),hN.symm,λk hk=>Zo⟩,(ae.refl _ _).alloc _⟩
 have rX:Hid ((w.alloc (.cells #[Zi 0,Zi c] 85)).heap[w.heap.size]?=some (.cells #[Zi 0,Zi c] 85 (0,0))):=heap_alloc_last _ _;have kB:=aa kj;have gT:=aa lN;have nR:Hid (c= -77 - (((L 3).length/2:Nat):Int)):=by show c=_;rw[hc,hL]
 have HK:=aa hk;have xx:=aa jb;have jY:=aa aR;have HV:Hid (V 3=.slice pv Ln cv):=by show V 3=_;rw[hv,hL]
 have wP:N<=2000000:=Zo;have Hk:(N:Int)<=2000000:=Zo;rw[hv,<-hL] at h5;obtain⟨mb,fa⟩:=Ze (w.heap.size);have fQ:Hid (w.heap.size<=mb+1/\(mb=w.heap.size)):=⟨Zo,fa⟩
 clear hc;generalize Ln/2=q at q0 iX q1 q2;clear hk aR hl jb hm kj lN hN hv hL;go_enter func30,ntmps30;go_wp2_with fail;rw[<-fa] at rX|-;obtain⟨w0,oR⟩:=Ze (w.alloc (.cells #[Zi 0,Zi c] 85));have af:Hid (mb<w0.heap.size):=by show mb<w0.heap.size;rw[oR,fa];simp
 rw[<-oR] at H0 rX|-;clear oR;clear fa h5
 go_loopw [5] (λd wr=>∃i:Nat,d=Zi (i:Int)/\i<=N/\Hid (mb<wr.heap.size)/\Hid (pn aJ 85 (uJ c) w base (.slice pl N cl) N i wr)/\Hid (wr.heap[mb]?=some (.cells #[Zi 0,Zi c] 85 (0,0)))) (λd _=>N - (RowKit.intOf d).toNat)
 case atStart=>exact⟨0,rfl,Zo,af,H0,rX⟩
 case round=>
  clear H0 af;obtain⟨i,rfl,hi,HS,HR,cB⟩:=hrel;by_cases ah:i<N
  ·have d1:(i:Int)<(N:Int):=Zo;have bf:0<=(i:Int)/\(i:Int)<(N:Int):=Zo;have v1:=Zf i Zo;obtain⟨g,rfl,_,_⟩:=gT.j Zo;obtain⟨si,cL,fV,ja⟩:=HR.j.ex;obtain⟨y0,c0⟩:∃y,wr.cell? ⟨g,i*2,none⟩=some y:=⟨_,(cL.cell i 0 Zo Zd).trans rfl⟩
   obtain⟨y1,c1⟩:∃y,wr.cell? ⟨g,i*2+1,none⟩=some y:=⟨_,(cL.cell i 1 Zo Zd).trans rfl⟩
   have f0:=cL.fz (i*2);have f1:=cL.fz (i*2+1);have m0:wr.cell? ⟨mb,0,none⟩=some (Zi 0):=Zl cB.j;have m1:wr.cell? ⟨mb,1,none⟩=some (Zi c):=Zl cB.j;have aw:Hid (mb<((wr.setCell ⟨g,i*2,none⟩ (Zi 0)).setCell ⟨g,i*2+1,none⟩ (Zi c)).heap.size):=by show mb<_;simpa using HS.j
   have bW:Hid (pn aJ 85 (uJ c) w base (Zs g N cl) N (i+1) ((wr.setCell ⟨g,i*2,none⟩ (Zi 0)).setCell ⟨g,i*2+1,none⟩ (Zi c))):=by
    obtain⟨s1,s2⟩:=CZ cL fV.symm i Zo (uJ c);refine⟨⟨si.set i (uJ c),s1,by simp[fV],λk hk=>?_⟩,?_⟩
    ·rw[List.getElem?_set];by_cases jn:i=k
     ·rw[if_pos jn,if_pos Zo]
     ·rw[if_neg jn];exact ja k Zo
    ·exact HR.j.on.trans (s2.mono (λk _ hk=>by rw[hk];rfl))
   have p9:Hid (((wr.setCell ⟨g,i*2,none⟩ (Zi 0)).setCell ⟨g,i*2+1,none⟩ (Zi c)).heap[mb]?=some (.cells #[Zi 0,Zi c] 85 (0,0))):=by
    obtain⟨s1,s2⟩:=CZ cL fV.symm i Zo (uJ c);exact(s2.block mb (au cB.j) (λe=>by have:=sR.j g rfl;have:=fQ.j;omega)).trans cB.j
   clear cL fV ja ah HR;go_wp2_with fail;go_roundw
   case rel=>exact⟨i+1,by go_num,Zo,aw,bW,p9⟩
   case measure=>exact Zm
  ·obtain rfl:i=N:=Zo;have d1:¬(i:Int)<(i:Int):=Zo;have nS:Hid (oC (o8 3) aJ 85 (uJ c) w mb base (.slice pl i cl) i 0 (.slice pl i cl) wr):=EF Zd HR.j;clear ah hi HR;go_wp2_with fail
   go_loopw [6,7] (λy d wr=>∃j:Nat,d=Zi (j:Int)/\j<=33/\Hid (mb<wr.heap.size)/\Hid (oC (o8 3) aJ 85 (uJ c) w mb base (.slice pl i cl) i j y wr)/\Hid (wr.heap[mb]?=some (.cells #[Zi 0,Zi c] 85 (0,0)))) (λ_ d _=>33 - (RowKit.intOf d).toNat)
   case atStart=>exact⟨0,rfl,Zo,HS,nS,cB⟩
   case round=>
    clear nS HS;obtain⟨j,rfl,hj,HS,HR,cB⟩:=hrel;by_cases fi:j<33
    ·have d2:(j:Int)<33:=Zo;have v1:=Zf j Zo;have m0:wr.cell? ⟨mb,0,none⟩=some (Zi 0):=Zl cB.j;have m1:wr.cell? ⟨mb,1,none⟩=some (Zi c):=Zl cB.j;have jw:Hid ((List.replicate (i+j) (uJ c)).length+1<=10000000):=by show _<=_;simp;omega
     have xu:Hid (base<=wr.heap.size):=Nat.le_trans xx.j HR.j.on.size;clear fi;go_wp2_with (at_builtin;refine mg aaW _ rfl _ _ rfl base _ _ rfl HR.j.own (uJ c) _ _ rfl rfl rfl jw.j xu.j (λx2 w4 h1 h2 h3=>?_);have bW:=aa (HR.j.push Zd h1 h2 h3 fQ.j.1 HS.j);have aw:Hid (mb<w4.heap.size):=Nat.lt_of_lt_of_le HS.j h2.size;have p9:Hid (w4.heap[mb]?=some (.cells #[Zi 0,Zi c] 85 (0,0))):=(h2.block mb (au cB.j) (λe=>by rcases HR.j.xw mb e with h9|h9;(have:=sR.j mb h9;have:=fQ.j;omega);omega)).trans cB.j;clear h1 h2 h3);go_roundw
     case rel=>exact⟨j+1,by go_num,Zo,aw,bW,p9⟩
     case measure=>exact Zm
    ·obtain rfl:j=33:=Zo;have eB:Hid (gI B wr bb o T cs V L):=HK.j.only HR.j.on (λk hb hs=>(kB.j k hs).1 hb) (λhs=>(kB.j bb hs).2 rfl);have h5:Zc wr bb (o+3) (V 3):=eB.j.cell (j:=3) Zd;rw[HV.j] at h5;have pA:Hid (ai mV wr 0 126 (.slice pv Ln cv) (L 3)):=by have:=(eB.j.k 3 Zd).own;rw[HV.j] at this;exact this
     obtain⟨px,cx,hx,_⟩:=HR.j.own.form;rw[List.length_replicate] at hx;subst hx;have mS:=aa eB.j.fz;have kC:=aa eB.j.bl
     have xj:Hid (∀k,(Value.slice pv Ln cv).ownBlock=some k->k≠bb):=λk iC e=>by
      have h8:=(eB.j.k 3 Zd).jB k (by rw[HV.j];exact iC);rw[e] at h8;exact eB.j.nb h8
     clear hj fi;go_wp2_with (at_builtin;refine Ex bk3 _ rfl _ _ rfl _ (L 3) rfl pA.j (pl,i,cl) (px,i+33,cx) _ _ rfl rfl rfl rfl jY.j (λv2 w4 h1 h2 h3=>?_);obtain⟨p2,c2,aP,_⟩:=h1.form;subst aP;have mv:=h2.block bb (au kC.j) (λhv=>xj.j bb hv rfl);have lS:=(World.cell?_of_block (a:=⟨bb,o+3,none⟩) mv).trans h5;have Hc:=(World.frozen?_of_block (a:=⟨bb,o+3,none⟩) mv).trans (mS.j (o+3));have H1:=aa h1;have H2:=aa h2;have H3:=aa h3;clear h1 h2 h3 mv)
     all_goals
      go_end0;refine⟨rfl,?_⟩;have rD:∀u:Value,(w4.setCell ⟨bb,o+3,none⟩ u).heap.size=w4.heap.size:=λu=>by simp[World.setCell]
      rw[rD];obtain⟨hb,ay⟩:=HK.j.push (j:=3) Zd (La:=aJ) rfl Zd HR.j rfl rfl wP rfl nR.j kB.j fQ.j.1 H1.j (by rw[HV.j];exact H2.j) (by rw[HV.j];exact H3.j);have Az:(L 3++[(pl,i,cl),(px,i+33,cx)]).length=(L 3).length+2:=by simp
      refine⟨_,_,_,_,by simpa using hb,λi hi=>?_,by simpa using ay⟩;rw[Array.getElem?_setIfInBounds_ne Zo]
end
section
variable {B:Nat->Prop} {w:World} {bb o:Nat} {T:TypeId} {cs:Array Value} {V:Nat->Value} {L:Nat->List Sh}
theorem Y5 (h:gI B w bb o T cs V L) (hl:∀j,j<6->(L j).length<=1000000):
  Zk 94 #[.pointer (some ⟨bb,o,none⟩)] w λe w'=>Zr e (.bool true)/\w'=w:=by
 have HH:=aa h;have HL:=aa hl;clear h hl;go_enter func94,ntmps94;go_wp2_with fail
 go_loopw [3] (λd wx=>∃i:Nat,d=Zi (i:Int)/\i<=(L 3).length/\wx=w) (λd _=>(L 3).length - (RowKit.intOf d).toNat)
 case atStart=>exact⟨0,rfl,Zo,rfl⟩
 case round=>
  obtain⟨i,rfl,hi,rfl⟩:=hrel;obtain⟨pv,cv,hv,lR⟩:=(HH.j.k 3 Zd).at;have hd:wr.cell? ⟨bb,o+3,none⟩=some (V 3):=HH.j.cell (j:=3) Zd;obtain⟨Ln,hL⟩:=Ze ((L 3).length);rw[hv,<-hL] at hd;have pR:(Ln:Int)<=1000000:=by have:=HL.j 3 Zd;omega
  have rY:=aa hL;have cC:=aa lR;have gj:i<=Ln:=Zo;clear lR hv hi hL;by_cases ah:i<Ln
  ·have d1:(i:Int)<(Ln:Int):=Zo;have bf:0<=(i:Int)/\(i:Int)<(Ln:Int):=Zo;have iD:i<(L 3).length:=by have:=rY.j;omega
   have v1:=Zf i Zo;obtain⟨g,rfl,iR⟩:=cC.j i iD;obtain⟨hn,hk⟩:=(HH.j.k 3 Zd).marks i iD;generalize (L 3)[i]=z at iR hn hk;obtain⟨p,n,cap⟩:=z;have DZ:wr.cell? ⟨g,i,none⟩=some (.slice p n cap):=iR;have HK:=aa hk;have q0:Int.tdiv (i:Int) 2=((i/2:Nat):Int):=by rw[Int.tdiv_eq_ediv_of_nonneg Zo];omega
   have iX:(i:Int)/2=((i/2:Nat):Int):=Zo;have q1:=Zh ((i/2:Nat):Int) Zo;have q2:IntKind.i64.wrap (-77 - ((i/2:Nat):Int))= -77 - ((i/2:Nat):Int):=by rw[IntKind.wrap_i64];omega
   generalize i/2=q at q0 iX q1 q2 HK;have nB:(n:Int)<=3000000:=by have:n<=3000000:=hn;omega
   have kN:Hid (i+1<=(L 3).length):=iD;clear hk iD ah iR hn gj;go_wp2_with fail
   go_loopw [4] (λd wx=>∃k:Nat,d=Zi (k:Int)/\k<=n/\wx=wr) (λd _=>n - (RowKit.intOf d).toNat)
   case atStart=>exact⟨0,rfl,Zo,rfl⟩
   case round=>
    obtain⟨k,rfl,hk,rfl⟩:=hrel;by_cases dA:k<n
    ·have d2:(k:Int)<(n:Int):=Zo;have tI:0<=(k:Int)/\(k:Int)<(n:Int):=Zo;have v2:=Zf k Zo;obtain⟨g2,cur,hp,_,gn,fM⟩:=HK.j (by show 0<n;omega);have lh:p=some ⟨g2,0,none⟩:=hp;subst lh;have D0:wr.cell? ⟨g2,k*2+1,none⟩=some (Zi (-77 - (q:Int))):=(cell_of_row _ _ (k*2+1) _ _ (0,0) gn).trans (fM k dA);clear fM dA gn hp;go_wp2_with fail;go_roundw
     case rel=>exact⟨k+1,by go_num,Zo,trivial⟩
     case measure=>exact Zm
    ·have d2:¬(k:Int)<(n:Int):=Zo;clear dA;go_wp2_with fail;go_roundw
     case rel=>exact⟨i+1,by go_num,kN.j,trivial⟩
     case measure=>have h9:=kN.j;simp only[RowKit.intOf];omega
  ·have d1:¬(i:Int)<(Ln:Int):=Zo;clear ah;go_wp2_with fail;clear hd
   go_loopw [5] (λd wx=>∃i:Nat,d=Zi (i:Int)/\i<=(L 4).length/\wx=wr) (λd _=>(L 4).length - (RowKit.intOf d).toNat)
   case atStart=>exact⟨0,rfl,Zo,rfl⟩
   case round=>
    obtain⟨i,rfl,hi,rfl⟩:=hrel;obtain⟨pv,cv,hv,lR⟩:=(HH.j.k 4 Zd).at;have hd:wr.cell? ⟨bb,o+4,none⟩=some (V 4):=HH.j.cell (j:=4) Zd;obtain⟨Ln,hL⟩:=Ze ((L 4).length);rw[hv,<-hL] at hd;have pR:(Ln:Int)<=1000000:=by have:=HL.j 4 Zd;omega
    have rY:=aa hL;have cC:=aa lR;have gj:i<=Ln:=Zo;clear lR hv hi hL;by_cases ah:i<Ln
    ·have d1:(i:Int)<(Ln:Int):=Zo;have bf:0<=(i:Int)/\(i:Int)<(Ln:Int):=Zo;have iD:i<(L 4).length:=by have:=rY.j;omega
     have v1:=Zf i Zo;obtain⟨g,rfl,iR⟩:=cC.j i iD;obtain⟨hn,hk⟩:=(HH.j.k 4 Zd).marks i iD;generalize (L 4)[i]=z at iR hn hk;obtain⟨p,n,cap⟩:=z;have DZ:wr.cell? ⟨g,i,none⟩=some (.slice p n cap):=iR;have HK:=aa hk;have q0:Int.tdiv (i:Int) 2=((i/2:Nat):Int):=by rw[Int.tdiv_eq_ediv_of_nonneg Zo];omega
     have iX:(i:Int)/2=((i/2:Nat):Int):=Zo;have q1:=Zh ((i/2:Nat):Int) Zo;have q2:IntKind.i64.wrap (-77 - ((i/2:Nat):Int))= -77 - ((i/2:Nat):Int):=by rw[IntKind.wrap_i64];omega
     generalize i/2=q at q0 iX q1 q2 HK;have nB:(n:Int)<=3000000:=by have:n<=3000000:=hn;omega
     have kN:Hid (i+1<=(L 4).length):=iD;clear hk iD ah iR hn gj;go_wp2_with fail
     go_loopw [6] (λd wx=>∃k:Nat,d=Zi (k:Int)/\k<=n/\wx=wr) (λd _=>n - (RowKit.intOf d).toNat)
     case atStart=>exact⟨0,rfl,Zo,rfl⟩
     case round=>
      obtain⟨k,rfl,hk,rfl⟩:=hrel;by_cases dA:k<n
      ·have d2:(k:Int)<(n:Int):=Zo;have tI:0<=(k:Int)/\(k:Int)<(n:Int):=Zo;have v2:=Zf k Zo;obtain⟨g2,cur,hp,_,gn,fM⟩:=HK.j (by show 0<n;omega);have lh:p=some ⟨g2,0,none⟩:=hp;subst lh;have D0:wr.cell? ⟨g2,k*12,none⟩=some (Zi (-77 - (q:Int))):=(cell_of_row _ _ (k*12) _ _ (0,0) gn).trans (fM k dA);clear fM dA gn hp;go_wp2_with fail;go_roundw
       case rel=>exact⟨k+1,by go_num,Zo,trivial⟩
       case measure=>exact Zm
      ·have d2:¬(k:Int)<(n:Int):=Zo;clear dA;go_wp2_with fail;go_roundw
       case rel=>exact⟨i+1,by go_num,kN.j,trivial⟩
       case measure=>have h9:=kN.j;simp only[RowKit.intOf];omega
    ·have d1:¬(i:Int)<(Ln:Int):=Zo;clear ah;go_wp2_with fail;clear hd
     go_loopw [7] (λd wx=>∃i:Nat,d=Zi (i:Int)/\i<=(L 5).length/\wx=wr) (λd _=>(L 5).length - (RowKit.intOf d).toNat)
     case atStart=>exact⟨0,rfl,Zo,rfl⟩
     case round=>
      obtain⟨i,rfl,hi,rfl⟩:=hrel;obtain⟨pv,cv,hv,lR⟩:=(HH.j.k 5 Zd).at;have hd:wr.cell? ⟨bb,o+5,none⟩=some (V 5):=HH.j.cell (j:=5) Zd;obtain⟨Ln,hL⟩:=Ze ((L 5).length);rw[hv,<-hL] at hd;have pR:(Ln:Int)<=1000000:=by have:=HL.j 5 Zd;omega
      have rY:=aa hL;have cC:=aa lR;have gj:i<=Ln:=Zo;clear lR hv hi hL;by_cases ah:i<Ln
      ·have d1:(i:Int)<(Ln:Int):=Zo;have bf:0<=(i:Int)/\(i:Int)<(Ln:Int):=Zo;have iD:i<(L 5).length:=by have:=rY.j;omega
       have v1:=Zf i Zo;obtain⟨g,rfl,iR⟩:=cC.j i iD;obtain⟨hn,hk⟩:=(HH.j.k 5 Zd).marks i iD;generalize (L 5)[i]=z at iR hn hk;obtain⟨p,n,cap⟩:=z;have DZ:wr.cell? ⟨g,i,none⟩=some (.slice p n cap):=iR;have HK:=aa hk;have q0:Int.tdiv (i:Int) 2=((i/2:Nat):Int):=by rw[Int.tdiv_eq_ediv_of_nonneg Zo];omega
       have iX:(i:Int)/2=((i/2:Nat):Int):=Zo;have q1:=Zh ((i/2:Nat):Int) Zo;have q2:IntKind.i64.wrap (-77 - ((i/2:Nat):Int))= -77 - ((i/2:Nat):Int):=by rw[IntKind.wrap_i64];omega
       generalize i/2=q at q0 iX q1 q2 HK;have nB:(n:Int)<=3000000:=by have:n<=3000000:=hn;omega
       have kN:Hid (i+1<=(L 5).length):=iD;clear hk iD ah iR hn gj;go_wp2_with fail
       go_loopw [8] (λd wx=>∃k:Nat,d=Zi (k:Int)/\k<=n/\wx=wr) (λd _=>n - (RowKit.intOf d).toNat)
       case atStart=>exact⟨0,rfl,Zo,rfl⟩
       case round=>
        obtain⟨k,rfl,hk,rfl⟩:=hrel;by_cases dA:k<n
        ·have d2:(k:Int)<(n:Int):=Zo;have tI:0<=(k:Int)/\(k:Int)<(n:Int):=Zo;have v2:=Zf k Zo;obtain⟨g2,cur,hp,_,gn,fM⟩:=HK.j (by show 0<n;omega);have lh:p=some ⟨g2,0,none⟩:=hp;subst lh;have D0:wr.cell? ⟨g2,k*41,none⟩=some (Zi (-77 - (q:Int))):=(cell_of_row _ _ (k*41) _ _ (0,0) gn).trans (fM k dA);clear fM dA gn hp;go_wp2_with fail;go_roundw
         case rel=>exact⟨k+1,by go_num,Zo,trivial⟩
         case measure=>exact Zm
        ·have d2:¬(k:Int)<(n:Int):=Zo;clear dA;go_wp2_with fail;go_roundw
         case rel=>exact⟨i+1,by go_num,kN.j,trivial⟩
         case measure=>have h9:=kN.j;simp only[RowKit.intOf];omega
      ·have d1:¬(i:Int)<(Ln:Int):=Zo;clear ah;go_wp2_with fail;clear hd
       all_goals
        go_ret;exact⟨rfl,rfl⟩
theorem Y4 (h:gI B w bb o T cs V L) (hl:∀j,j<6->(L j).length<=1000000):
  Zk 36 #[.pointer (some ⟨bb,o,none⟩)] w λe w'=>Zr e (.bool true)/\w'=w:=by
 have HM:=aa (Y5 h hl);have HH:=aa h;have HL:=aa hl;clear h hl;go_enter func36,ntmps36;go_wp2_with fail
 go_loopw [3] (λd wx=>∃i:Nat,d=Zi (i:Int)/\i<=(L 0).length/\wx=w) (λd _=>(L 0).length - (RowKit.intOf d).toNat)
 case atStart=>exact⟨0,rfl,Zo,rfl⟩
 case round=>
  obtain⟨i,rfl,hi,rfl⟩:=hrel;obtain⟨pv,cv,hv,lR⟩:=(HH.j.k 0 Zd).at;have hd:wr.cell? ⟨bb,o,none⟩=some (V 0):=HH.j.cell (j:=0) Zd;obtain⟨Ln,hL⟩:=Ze ((L 0).length);rw[hv,<-hL] at hd;have pR:(Ln:Int)<=1000000:=by have:=HL.j 0 Zd;omega
  have rY:=aa hL;have cC:=aa lR;have gj:i<=Ln:=Zo;clear lR hv hi hL;by_cases ah:i<Ln
  ·have d1:(i:Int)<(Ln:Int):=Zo;have bf:0<=(i:Int)/\(i:Int)<(Ln:Int):=Zo;have iD:i<(L 0).length:=by have:=rY.j;omega
   have v1:=Zf i Zo;obtain⟨g,rfl,iR⟩:=cC.j i iD;obtain⟨hn,hk⟩:=(HH.j.k 0 Zd).marks i iD;generalize (L 0)[i]=z at iR hn hk;obtain⟨p,n,cap⟩:=z;have DZ:wr.cell? ⟨g,i,none⟩=some (.slice p n cap):=iR;have HK:=aa hk;have q0:Int.tdiv (i:Int) 2=((i/2:Nat):Int):=by rw[Int.tdiv_eq_ediv_of_nonneg Zo];omega
   have iX:(i:Int)/2=((i/2:Nat):Int):=Zo;have q1:=Zh ((i/2:Nat):Int) Zo;have q2:IntKind.i64.wrap (-77 - ((i/2:Nat):Int))= -77 - ((i/2:Nat):Int):=by rw[IntKind.wrap_i64];omega
   generalize i/2=q at q0 iX q1 q2 HK;have nB:(n:Int)<=3000000:=by have:n<=3000000:=hn;omega
   have kN:Hid (i+1<=(L 0).length):=iD;clear hk iD ah iR hn gj;go_wp2_with fail
   go_loopw [4] (λd wx=>∃k:Nat,d=Zi (k:Int)/\k<=n/\wx=wr) (λd _=>n - (RowKit.intOf d).toNat)
   case atStart=>exact⟨0,rfl,Zo,rfl⟩
   case round=>
    obtain⟨k,rfl,hk,rfl⟩:=hrel;by_cases dA:k<n
    ·have d2:(k:Int)<(n:Int):=Zo;have tI:0<=(k:Int)/\(k:Int)<(n:Int):=Zo;have v2:=Zf k Zo;obtain⟨g2,cur,hp,_,gn,fM⟩:=HK.j (by show 0<n;omega);have lh:p=some ⟨g2,0,none⟩:=hp;subst lh;have D0:wr.cell? ⟨g2,k,none⟩=some (Zi (-77 - (q:Int))):=by have h9:=fM k dA;rw[show k*Ie 0+o8 0=k from Nat.mul_one k] at h9;exact(cell_of_row _ _ k _ _ (0,0) gn).trans h9
     clear fM dA gn hp;go_wp2_with fail;go_roundw
     case rel=>exact⟨k+1,by go_num,Zo,trivial⟩
     case measure=>exact Zm
    ·have d2:¬(k:Int)<(n:Int):=Zo;clear dA;go_wp2_with fail;go_roundw
     case rel=>exact⟨i+1,by go_num,kN.j,trivial⟩
     case measure=>have h9:=kN.j;simp only[RowKit.intOf];omega
  ·have d1:¬(i:Int)<(Ln:Int):=Zo;clear ah;go_wp2_with fail;clear hd
   go_loopw [5] (λd wx=>∃i:Nat,d=Zi (i:Int)/\i<=(L 1).length/\wx=wr) (λd _=>(L 1).length - (RowKit.intOf d).toNat)
   case atStart=>exact⟨0,rfl,Zo,rfl⟩
   case round=>
    obtain⟨i,rfl,hi,rfl⟩:=hrel;obtain⟨pv,cv,hv,lR⟩:=(HH.j.k 1 Zd).at;have hd:wr.cell? ⟨bb,o+1,none⟩=some (V 1):=HH.j.cell (j:=1) Zd;obtain⟨Ln,hL⟩:=Ze ((L 1).length);rw[hv,<-hL] at hd;have pR:(Ln:Int)<=1000000:=by have:=HL.j 1 Zd;omega
    have rY:=aa hL;have cC:=aa lR;have gj:i<=Ln:=Zo;clear lR hv hi hL;by_cases ah:i<Ln
    ·have d1:(i:Int)<(Ln:Int):=Zo;have bf:0<=(i:Int)/\(i:Int)<(Ln:Int):=Zo;have iD:i<(L 1).length:=by have:=rY.j;omega
     have v1:=Zf i Zo;obtain⟨g,rfl,iR⟩:=cC.j i iD;obtain⟨hn,hk⟩:=(HH.j.k 1 Zd).marks i iD;generalize (L 1)[i]=z at iR hn hk;obtain⟨p,n,cap⟩:=z;have DZ:wr.cell? ⟨g,i,none⟩=some (.slice p n cap):=iR;have HK:=aa hk;have q0:Int.tdiv (i:Int) 2=((i/2:Nat):Int):=by rw[Int.tdiv_eq_ediv_of_nonneg Zo];omega
     have iX:(i:Int)/2=((i/2:Nat):Int):=Zo;have q1:=Zh ((i/2:Nat):Int) Zo;have q2:IntKind.i64.wrap (-77 - ((i/2:Nat):Int))= -77 - ((i/2:Nat):Int):=by rw[IntKind.wrap_i64];omega
     generalize i/2=q at q0 iX q1 q2 HK;have nB:(n:Int)<=3000000:=by have:n<=3000000:=hn;omega
     have kN:Hid (i+1<=(L 1).length):=iD;clear hk iD ah iR hn gj;go_wp2_with fail
     go_loopw [6] (λd wx=>∃k:Nat,d=Zi (k:Int)/\k<=n/\wx=wr) (λd _=>n - (RowKit.intOf d).toNat)
     case atStart=>exact⟨0,rfl,Zo,rfl⟩
     case round=>
      obtain⟨k,rfl,hk,rfl⟩:=hrel;by_cases dA:k<n
      ·have d2:(k:Int)<(n:Int):=Zo;have tI:0<=(k:Int)/\(k:Int)<(n:Int):=Zo;have v2:=Zf k Zo;obtain⟨g2,cur,hp,_,gn,fM⟩:=HK.j (by show 0<n;omega);have lh:p=some ⟨g2,0,none⟩:=hp;subst lh;have D0:wr.cell? ⟨g2,k*2,none⟩=some (Zi (-77 - (q:Int))):=(cell_of_row _ _ (k*2) _ _ (0,0) gn).trans (fM k dA);clear fM dA gn hp;go_wp2_with fail;go_roundw
       case rel=>exact⟨k+1,by go_num,Zo,trivial⟩
       case measure=>exact Zm
      ·have d2:¬(k:Int)<(n:Int):=Zo;clear dA;go_wp2_with fail;go_roundw
       case rel=>exact⟨i+1,by go_num,kN.j,trivial⟩
       case measure=>have h9:=kN.j;simp only[RowKit.intOf];omega
    ·have d1:¬(i:Int)<(Ln:Int):=Zo;clear ah;go_wp2_with fail;clear hd
     go_loopw [7] (λd wx=>∃i:Nat,d=Zi (i:Int)/\i<=(L 2).length/\wx=wr) (λd _=>(L 2).length - (RowKit.intOf d).toNat)
     case atStart=>exact⟨0,rfl,Zo,rfl⟩
     case round=>
      obtain⟨i,rfl,hi,rfl⟩:=hrel;obtain⟨pv,cv,hv,lR⟩:=(HH.j.k 2 Zd).at;have hd:wr.cell? ⟨bb,o+2,none⟩=some (V 2):=HH.j.cell (j:=2) Zd;obtain⟨Ln,hL⟩:=Ze ((L 2).length);rw[hv,<-hL] at hd;have pR:(Ln:Int)<=1000000:=by have:=HL.j 2 Zd;omega
      have rY:=aa hL;have cC:=aa lR;have gj:i<=Ln:=Zo;clear lR hv hi hL;by_cases ah:i<Ln
      ·have d1:(i:Int)<(Ln:Int):=Zo;have bf:0<=(i:Int)/\(i:Int)<(Ln:Int):=Zo;have iD:i<(L 2).length:=by have:=rY.j;omega
       have v1:=Zf i Zo;obtain⟨g,rfl,iR⟩:=cC.j i iD;obtain⟨hn,hk⟩:=(HH.j.k 2 Zd).marks i iD;generalize (L 2)[i]=z at iR hn hk;obtain⟨p,n,cap⟩:=z;have DZ:wr.cell? ⟨g,i,none⟩=some (.slice p n cap):=iR;have HK:=aa hk;have q0:Int.tdiv (i:Int) 2=((i/2:Nat):Int):=by rw[Int.tdiv_eq_ediv_of_nonneg Zo];omega
       have iX:(i:Int)/2=((i/2:Nat):Int):=Zo;have q1:=Zh ((i/2:Nat):Int) Zo;have q2:IntKind.i64.wrap (-77 - ((i/2:Nat):Int))= -77 - ((i/2:Nat):Int):=by rw[IntKind.wrap_i64];omega
       generalize i/2=q at q0 iX q1 q2 HK;have nB:(n:Int)<=3000000:=by have:n<=3000000:=hn;omega
       have kN:Hid (i+1<=(L 2).length):=iD;clear hk iD ah iR hn gj;go_wp2_with fail
       go_loopw [8] (λd wx=>∃k:Nat,d=Zi (k:Int)/\k<=n/\wx=wr) (λd _=>n - (RowKit.intOf d).toNat)
       case atStart=>exact⟨0,rfl,Zo,rfl⟩
       case round=>
        obtain⟨k,rfl,hk,rfl⟩:=hrel;by_cases dA:k<n
        ·have d2:(k:Int)<(n:Int):=Zo;have tI:0<=(k:Int)/\(k:Int)<(n:Int):=Zo;have v2:=Zf k Zo;obtain⟨g2,cur,hp,_,gn,fM⟩:=HK.j (by show 0<n;omega);have lh:p=some ⟨g2,0,none⟩:=hp;subst lh;have D0:wr.cell? ⟨g2,k*3+1,none⟩=some (Zi (-77 - (q:Int))):=(cell_of_row _ _ (k*3+1) _ _ (0,0) gn).trans (fM k dA);clear fM dA gn hp;go_wp2_with fail;go_roundw
         case rel=>exact⟨k+1,by go_num,Zo,trivial⟩
         case measure=>exact Zm
        ·have d2:¬(k:Int)<(n:Int):=Zo;clear dA;go_wp2_with fail;go_roundw
         case rel=>exact⟨i+1,by go_num,kN.j,trivial⟩
         case measure=>have h9:=kN.j;simp only[RowKit.intOf];omega
      ·have d1:¬(i:Int)<(Ln:Int):=Zo;clear ah;go_wp2_with fail;clear hd;refine HM.j.e1 ?_;go_wp2_with fail
       all_goals
        go_ret;exact⟨rfl,rfl⟩
end
end Go.Proofs.YtphkconoooeidaaGreatDoor

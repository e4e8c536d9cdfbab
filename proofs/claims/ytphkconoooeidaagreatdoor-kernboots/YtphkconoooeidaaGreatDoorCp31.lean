import Derived.Test.YtphkconoooeidaaGreatDoorCp30
set_option maxRecDepth 100000
set_option maxHeartbeats 8000000
set_option linter.unusedVariables false
set_option linter.unusedSimpArgs false
open Go Go.Vx Go.Proofs.Tryz Go.ChangeShapes Go.WideShapes Go.ChangeAt Go.RowKit
namespace Go.Proofs.YtphkconoooeidaaGreatDoor
section
variable {kb mb sb pb qb bb:Nat} {vT:Value} {U V S:Nat->Prop} {w wv w1 w2:World} {K K2:Kn} {F:List (Nat×Obj)} {l:List dR}
theorem J4 {pre rest:List Value} (hp:pre.length=6) {L:List Ln} {i:Nat} (hi:i<L.length) {j:Nat} (hj:j<4):(pre++(L.flatMap eE++rest))[6+i*4+j]?=(eE L[i])[j]?:=by
 rw[List.getElem?_append_right Zo];rw[show 6+i*4+j - pre.length=i*4+j from Zo];have h1:=Mg vU L i hi j hj;rw[show vU.sz=4 from rfl] at h1;rw[List.getElem?_append_left ?_]
 ·exact h1
 ·have:(L.flatMap eE).length=L.length*4:=by
   clear h1 hi
   induction L with
   |nil=>rfl
   |cons a r ih=>rw[List.flatMap_cons,List.length_append,ih];show 4+_=_;simp;omega
  rw[this];omega
theorem De {pre rest:List Value} (hp:pre.length=6) {L:List Ln} {i:Nat} (hi:i<L.length) {j:Nat} (hj:j<4) {v:Value} {y:Ln} (he:(eE L[i]).set j v=eE y):(pre++(L.flatMap eE++rest)).toArray.setIfInBounds (6+i*4+j) v=(pre++((L.set i y).flatMap eE++rest)).toArray:=by
 have hl:(L.flatMap eE).length=L.length*4:=by
  clear hi he
  induction L with
  |nil=>rfl
  |cons a r ih=>rw[List.flatMap_cons,List.length_append,ih];show 4+_=_;simp;omega
 rw[List.setIfInBounds_toArray];congr 1;rw[List.set_append,if_neg Zo];congr 1;rw[show 6+i*4+j - pre.length=i*4+j from Zo];rw[List.set_append,if_pos (by rw[hl];omega)];congr 1;exact Hv vU y j v L i hi hj he
theorem il.uu {α:Type} {L:Lay α} {p:Option Addr} {n c:Nat} {xs:List α} (h:il L w (.slice p n c) xs):jM L (λk=>k<w.heap.size) w p xs:=by
 obtain⟨p2,c2,h1,h2,h3⟩:=h.rw;injection h1 with h4 h5 h6
 subst h4;refine⟨λh0=>?_,by have:=h2;unfold maxLen at this;omega⟩;obtain⟨g,o,h7,h8⟩:=h3 h0;exact⟨g,o,h7,h8.gl,h8⟩
def lU (v0 v2 v3:Value) (sb bb:Nat) (L:List Ln) (c:Nat):List Value:=[v0,Zp sb,v2,v3,Zp bb,.slice none 0 0]++(L.flatMap eE++(e8.map fG++(e8.map fG++[Zu (c:Int)])))
theorem cn.put (h:cn l U w wv) {i b o:Nat} {cs:Array Value} {T:TypeId} (hi:l[i]?=some (kF b (.cells cs T (0,0)))) (v:Value):cn (l.set i (kF b (.cells (cs.setIfInBounds o v) T (0,0)))) U w (wv.setCell ⟨b,o,none⟩ v):=by
 obtain⟨U2,⟨a1,a2,a3⟩,_,uX,kh⟩:=aD.open h.1 i hi;have ho:ae (λk=>k=b) wv (wv.setCell ⟨b,o,none⟩ v):=(ae.refl (λk=>k=b) wv).setCell (p:=⟨b,o,none⟩) (Or.inl rfl) v;have hs:=ho.size;obtain⟨h5,h6⟩:=kh (kF b (.cells (cs.setIfInBounds o v) T (0,0))) _ (kF.bj _ _) ⟨heap_setCell_same wv b o _ _ v a1,a2,λk hk=>by have:=uX k hk;omega⟩ (ho.mono (λk _ hk=>by subst hk;exact a2));exact⟨h5,h.2.trans h6⟩
theorem cn.at (h:cn l U w wv) {i b:Nat} {o:Obj} (hi:l[i]?=some (kF b o)):wv.heap[b]?=some o:=by
 obtain⟨U2,⟨a1,_,_⟩,_⟩:=aD.at h.1 i hi;exact a1
theorem cn.ref (h:cn l U w wv) {n br b2:Nat} (hr:cR w2 br b2 n (λ_=>0)) (h1:wv.heap.size<=br) (h2:wv.heap.size<=b2) (ho:Zq wv w2):cn (l++[sG br n (λ_=>0)]) U w w2:=h.more (sG.bj br n (λ_=>0)) ⟨b2,hr,λh=>Zo,λh=>Zo,λk hk=>Nat.lt_of_lt_of_le hk ho.size⟩ ho
theorem cn.store (h:cn l U w wv):cn (l++[p4 wv.heap.size [] []]) U w (wv.alloc (.cells #[.slice none 0 0,.slice none 0 0] 60)):=by
 have ho:Zq wv (wv.alloc (.cells #[.slice none 0 0,.slice none 0 0] 60)):=(ae.refl _ wv).alloc _;exact h.more (p4.bj _ [] []) ⟨_,_,heap_alloc_last wv _,ai.nil _ _ _ _,ai.nil _ _ _ _,λh=>Nat.lt_irrefl _ h,(λk hk=>by cases hk),(λk hk=>by cases hk),λk hk=>Nat.lt_of_lt_of_le hk ho.size,Zd,Zd⟩ ho
theorem cn.Y3 (h:cn l U w wv):cn (l++[rP wv.heap.size ⟨[],[]⟩]) U w (wv.alloc (.cells #[.slice none 0 0,.slice none 0 0] 65)):=by
 have ho:Zq wv (wv.alloc (.cells #[.slice none 0 0,.slice none 0 0] 65)):=(ae.refl _ wv).alloc _;exact h.more (rP.bj _ ⟨[],[]⟩) ⟨_,_,heap_alloc_last wv _,ai.nil _ _ _ _,ai.nil _ _ _ _,λh=>Nat.lt_irrefl _ h,(λk hk=>by cases hk),(λk hk=>by cases hk),λk hk=>Nat.lt_of_lt_of_le hk ho.size,Zd,Zd⟩ ho
theorem cn.block (h:cn l U w wv) (cs:Array Value) (T:TypeId):cn (l++[kF wv.heap.size (.cells cs T (0,0))]) U w (wv.alloc (.cells cs T)):=by
 have ho:Zq wv (wv.alloc (.cells cs T)):=(ae.refl _ wv).alloc _;exact h.more (kF.bj _ _) ⟨heap_alloc_last wv _,λh=>Nat.lt_irrefl _ h,λk hk=>Nat.lt_of_lt_of_le hk ho.size⟩ ho
theorem cn.ad8 {n:Nat} {ts:Lp} {t:Nat} {lf:Int} {L:List Ln} {c:Nat} (h:cn [p4 sb [] [],rP bb ⟨[],[]⟩,kF kb (.cells (lU (Zp mb) (Zp pb) (Zp qb) sb bb L c).toArray 75 (0,0)),sG mb n (λ_=>0),za qb ts t lf [] 0,Cm pb (n:Int) [] []] U w wv):aI U wv kb mb sb pb qb bb (.slice none 0 0) ⟨n,λ_=>0,[],[],[],[],ts,t,lf,[],0,⟨[],[]⟩,[],L,e8,e8,c⟩:=by
 obtain⟨U2,⟨a1,a2,a3⟩,_,uX,kh⟩:=aD.open h.1 2 rfl;have hP:p3 kb mb sb pb qb bb (.slice none 0 0) [] L e8 e8 c U2 wv:=⟨a1,ai.nil _ _ _ _,a2,(λk hk=>by cases hk),a3,Zd⟩
 have h5:=(kh (p3 kb mb sb pb qb bb (.slice none 0 0) [] L e8 e8 c) wv p3.bj hP (ae.refl _ _)).1
 exact aD.Jg h5 (λi=>[3,0,5,4,1,2].getD i 0) (λi hi=>by
  have RX:i<6:=hi;have:i=0\/i=1\/i=2\/i=3\/i=4\/i=5:=Zo
  rcases this with rfl|rfl|rfl|rfl|rfl|rfl<;>rfl) (by simp only[List.length_cons,List.length_nil];decide)
theorem aI.db {L2:List Ln} (h:aI U w kb mb sb pb qb bb vT K) (ho:ae (λk=>k=kb) w w2) (hb:w2.heap[kb]?=some (.cells (AX mb sb pb qb bb vT L2 K.ci K.co K.c).toArray 75 (0,0))):aI U w2 kb mb sb pb qb bb vT {K with L:=L2}/\Zn U w w2:=by
 obtain⟨U2,hx,_,_,kh⟩:=aD.open h 5 rfl
 exact kh (p3 kb mb sb pb qb bb vT K.T L2 K.ci K.co K.c) w2 p3.bj ⟨hb,hx.t.kept ho (λk hk e=>by
  obtain⟨c1,h1⟩:=bu hx.t hk;subst e
  exact cE h1 hx.k Zd rfl),hx.uk,hx.ut,λk hk=>Nat.lt_of_lt_of_le (hx.low k hk) ho.size,hx.nt⟩ (ho.mono (λk _ hk=>by subst hk;exact hx.uk))
theorem aI.Df (h:aI U w kb mb sb pb qb bb vT K) {j:Nat} (hj:j<K.L.length) (y:Ln):∃w2,w2=w.setCells kb (6+j*4) (eE y)/\w.there kb (6+j*4) 4/\(storeCells ⟨kb,6+j*4,none⟩ (eE y)).run prog w=.ok () w2/\aI U w2 kb mb sb pb qb bb vT {K with L:=K.L.set j y}/\Zn U w w2:=by
 have hk:=h.k;unfold AX at hk
 have ke:w.there kb (6+j*4) (eE y).length:=λq hq=>by
  refine⟨?_,jA hk _⟩;have Dy:q<4:=hq;rw[cell_of_row _ _ _ _ _ (0,0) hk,List.getElem?_toArray,J4 rfl hj Dy,List.getElem?_eq_getElem (show q<(eE K.L[j]).length from Dy)];rfl
 have aM:=s7 w kb (6+j*4) (eE y) ke (vU.one y);obtain⟨b,g,m,p⟩:=y;have e1:=heap_setCell_same w kb (6+j*4) _ _ (Zi b) hk;have s1:=De (pre:=[Zp mb,Zp sb,Zp pb,Zp qb,Zp bb,vT]) (rest:=K.ci.map fG++(K.co.map fG++[Zu (K.c:Int)])) rfl hj (j:=0) Zd (v:=Zi b) (y:={K.L[j] with dj:=b}) rfl;rw[Nat.add_zero] at s1;rw[s1] at e1;have e2:=heap_setCell_same _ kb (6+j*4+1) _ _ (Zu g) e1;rw[De rfl (L:=K.L.set j {K.L[j] with dj:=b}) (i:=j) (by rw[List.length_set];exact hj) (j:=1) Zd (v:=Zu g) (y:={K.L[j] with dj:=b,jW:=g}) (by rw[List.getElem_set_self];rfl),List.set_set] at e2;have e3:=heap_setCell_same _ kb (6+j*4+2) _ _ (.bool m) e2;rw[De rfl (L:=K.L.set j {K.L[j] with dj:=b,jW:=g}) (i:=j) (by rw[List.length_set];exact hj) (j:=2) Zd (v:=.bool m) (y:={K.L[j] with dj:=b,jW:=g,pL:=m}) (by rw[List.getElem_set_self];rfl),List.set_set] at e3;have e4:=heap_setCell_same _ kb (6+j*4+3) _ _ (.bool p) e3;rw[De rfl (L:=K.L.set j {K.L[j] with dj:=b,jW:=g,pL:=m}) (i:=j) (by rw[List.length_set];exact hj) (j:=3) Zd (v:=.bool p) (y:=⟨b,g,m,p⟩) (by rw[List.getElem_set_self];rfl),List.set_set] at e4;obtain⟨h5,h6⟩:=h.db (((((ae.refl (λk=>k=kb) w).setCell (p:=⟨kb,6+j*4,none⟩) (Or.inl rfl) (Zi b)).setCell (p:=⟨kb,6+j*4+1,none⟩) (Or.inl rfl) (Zu g)).setCell (p:=⟨kb,6+j*4+2,none⟩) (Or.inl rfl) (.bool m)).setCell (p:=⟨kb,6+j*4+3,none⟩) (Or.inl rfl) (.bool p)) e4;exact⟨_,rfl,ke,aM,h5,h6⟩
theorem Yd (sb bb c:Nat) (w:World):(Instr.build 75 #[(1,Zp sb),(4,Zp bb),(9,Zu (c:Int))]).run prog w=.ok (.agg (lU (.pointer none) (.pointer none) (.pointer none) sb bb qz c).toArray) w:=Zx
end
section
variable {kb mb sb pb qb bb:Nat} {vT:Value} {U V S:Nat->Prop} {w wv w1 w2:World} {K K2:Kn} {F:List (Nat×Obj)} {l:List dR}
theorem afK {o:Oper} {act:Act} {K:Act->World->Prop} {Q:Exit->Act->World->Prop} (x1 x4 x9:Operand) (ho:o.op=.build 75 #[(1,x1),(4,x4),(9,x9)]) (d:Nat) (hd:o.dst=some d) {sb bb c:Nat} (h1:act.eval x1=Zp sb) (h4:act.eval x4=Zp bb) (h9:act.eval x9=Zu (c:Int)) (h:K (act.put (some d) (.agg (lU (.pointer none) (.pointer none) (.pointer none) sb bb qz c).toArray)) w):Oper.wp prog o act w K Q:=by
 have aM:=Yd sb bb c w;generalize (lU (.pointer none) (.pointer none) (.pointer none) sb bb qz c).toArray=e at aM h;unfold Oper.wp;simp only[execOp,ho];simp[h1,h4,h9,aM,Result.andThen];rw[Oper.upon_value,hd];exact h
theorem aA.Ia (h:aA U w kb mb sb pb qb bb F K wv) {f:FuncId} {args:Array Value} {v:Value} (hc:∀V,(∀k,U k->V k)->fF V wv kb mb sb pb qb bb K->Zk f args wv λe w'=>Zr e v/\fF V w' kb mb sb pb qb bb K2/\Zn V wv w'):
  Zk f args wv λe w'=>Zr e v/\Hid (aA U w kb mb sb pb qb bb F K2 w'):=by
 obtain⟨⟨V,h1,h2,h3⟩,h4,h5⟩:=h;refine(hc V h1 h3).m ?_;rintro e w' ⟨rfl,h6,h7⟩;exact⟨rfl,⟨V,h1,h2,h6⟩,λp hp=>ae.keep h7 (h4 p hp) (λh=>h (h2 p hp)),h5.trans (h7.mono (λk _ h8 h9=>h8 (h1 k h9)))⟩
theorem aI.write (h:aI U w kb mb sb pb qb bb vT K) (a:Int) (s:List UInt8) (hs:s.length<=9223372036854775807):Zk 15 #[Zp mb,Zi a,.string ⟨s.toArray⟩] w λe w'=>Zr e (Zi ((oJ K.f K.n a s).2:Nat))/\aI U w' kb mb sb pb qb bb vT {K with f:=(oJ K.f K.n a s).1}/\Zn U w w':=by
 refine aD.call h 0 rfl (sG.bj mb K.n (oJ K.f K.n a s).1) (λU2 ⟨bx,a1,b,c,d⟩=>(YS a1 a s hs).m ?_);rintro e w' ⟨h1,h2,h3⟩;have hs:=h3.size;exact⟨h1,⟨bx,h2,b,c,λk hk=>by have:=d k hk;omega⟩,h3.mono (λk _ hk h4=>by subst hk;exact c h4)⟩
theorem aeY (v v0 v2 v3:Value) (sb bb:Nat) (L:List Ln) (c:Nat):(lU v0 v2 v3 sb bb L c).toArray.setIfInBounds 0 v=(lU v v2 v3 sb bb L c).toArray:=by
 rw[List.setIfInBounds_toArray];rfl
theorem aeX (v v0 v2 v3:Value) (sb bb:Nat) (L:List Ln) (c:Nat):(lU v0 v2 v3 sb bb L c).toArray.setIfInBounds 2 v=(lU v0 v v3 sb bb L c).toArray:=by
 rw[List.setIfInBounds_toArray];rfl
theorem aeW (v v0 v2 v3:Value) (sb bb:Nat) (L:List Ln) (c:Nat):(lU v0 v2 v3 sb bb L c).toArray.setIfInBounds 3 v=(lU v0 v2 v sb bb L c).toArray:=by
 rw[List.setIfInBounds_toArray];rfl
theorem aeV (v0 v2 v3:Value) (sb bb:Nat) (c:Nat) {j:Nat} (hj:j<8):(lU v0 v2 v3 sb bb (j7 j) c).toArray.setIfInBounds (6+j*4) (Zi (-1))=(lU v0 v2 v3 sb bb (j7 (j+1)) c).toArray:=by
 have hl:j<(j7 j).length:=by rw[J5 Zo];exact hj
 have he:(j7 j)[j]=Gt:=by
  have:j=0\/j=1\/j=2\/j=3\/j=4\/j=5\/j=6\/j=7:=Zo;rcases this with rfl|rfl|rfl|rfl|rfl|rfl|rfl|rfl<;>rfl
 have h1:=De (pre:=[v0,Zp sb,v2,v3,Zp bb,.slice none 0 0]) (rest:=e8.map fG++(e8.map fG++[Zu (c:Int)])) rfl hl (j:=0) Zd (v:=Zi (-1)) (y:=yd) (by rw[he];rfl);rw[Nat.add_zero,Qc hj] at h1;exact h1
theorem aeZ (v0 v2 v3:Value) (sb bb:Nat) (c:Nat) {j:Nat} (hj:j<8) (hw:w.heap[kb]?=some (.cells (lU v0 v2 v3 sb bb (j7 j) c).toArray 75 (0,0))):w.cell? ⟨kb,6+j*4,none⟩=some (Zi 0)/\w.frozen? ⟨kb,6+j*4,none⟩=false:=by
 have hl:j<(j7 j).length:=by rw[J5 Zo];exact hj
 have he:(j7 j)[j]=Gt:=by
  have:j=0\/j=1\/j=2\/j=3\/j=4\/j=5\/j=6\/j=7:=Zo;rcases this with rfl|rfl|rfl|rfl|rfl|rfl|rfl|rfl<;>rfl
 have h1:=J4 (pre:=[v0,Zp sb,v2,v3,Zp bb,.slice none 0 0]) (rest:=e8.map fG++(e8.map fG++[Zu (c:Int)])) rfl hl (j:=0) Zd;rw[Nat.add_zero,he] at h1;refine⟨(cell_of_row _ _ _ _ _ (0,0) hw).trans ?_,jA hw _⟩;rw[List.getElem?_toArray];exact h1
theorem N2 {ts:Lp} (h:eP ts=0):Ck ts 0 (ts.getD 0 (0,0)).2:=by
 have hn:1<=ts.length/\ts.length<=16/\ts.all gJ=true:=by
  unfold eP at h;by_cases hc:ts.length<1\/16<ts.length\/ts.all gJ=false
  ·rw[if_pos hc] at h;cases h
  ·refine⟨Zo,Zo,?_⟩
   cases hb:ts.all gJ with
   |true=>rfl
   |false=>exact absurd (Or.inr (Or.inr hb)) hc
 have tC:∀x∈ts,gJ x=true:=List.all_eq_true.1 hn.2.2;have h0:0<ts.length:=Zo;have gQ:ts.getD 0 (0,0)∈ts:=by simp[List.getD_eq_getElem?_getD,h0]
 have gY:=of_decide_eq_true (tC _ gQ);exact⟨hn.1,hn.2.1,tC,h0,Zo,Zo⟩
theorem aA.line (h:aA U w kb mb sb pb qb bb F K wv) {i:Nat} (hi:i<K.L.length):wv.cell? ⟨kb,6+i*4,none⟩=some (Zi K.L[i].dj)/\∀j,wv.frozen? ⟨kb,j,none⟩=false:=by
 obtain⟨⟨V,h1,h2,vT,h3⟩,h4,h5⟩:=h;have hk:=h3.k;unfold AX at hk;have e0:=J4 (pre:=[Zp mb,Zp sb,Zp pb,Zp qb,Zp bb,vT]) (rest:=K.ci.map fG++(K.co.map fG++[Zu (K.c:Int)])) rfl hi (j:=0) Zd;rw[Nat.add_zero] at e0;exact⟨(cell_of_row _ _ _ _ _ (0,0) hk).trans (by rw[List.getElem?_toArray,e0];rfl),λj=>jA hk j⟩
theorem aA.Df (h:aA U w kb mb sb pb qb bb F K wv) {i:Nat} (hi:i<K.L.length) (y:Ln):aA U w kb mb sb pb qb bb F {K with L:=K.L.set i y} (wv.setCells kb (6+i*4) (eE y))/\wv.there kb (6+i*4) 4:=by
 obtain⟨⟨V,h1,h2,vT,h3⟩,h4,h5⟩:=h;obtain⟨w2,rfl,ke,hr,h6,h7⟩:=h3.Df hi y;exact⟨⟨⟨V,h1,h2,vT,h6⟩,λp hp=>ae.keep h7 (h4 p hp) (λh=>h (h2 p hp)),h5.trans (h7.mono (λk _ h8 h9=>h8 (h1 k h9)))⟩,ke⟩
theorem adE:(prog.info? 71).map (·.size)=some 4:=Zx
theorem Xi {o:Oper} {act:Act} {K:Act->World->Prop} {Q:Exit->Act->World->Prop} (x y:Operand) (ho:o.op=.store 71 x y) (hd:o.dst=none) {l:Ln} {kb off:Nat} (hx:act.eval x=.pointer (some ⟨kb,off,none⟩)) (hy:act.eval y=.agg (eE l).toArray) (ht:w.there kb off 4) (h:K act (w.setCells kb off (eE l))):Oper.wp prog o act w K Q:=by
 refine wp_store_mid 71 x y ho kb off _ hx hy ht (by rw[adE];rfl) (all_oneCell_toArray (vU.one l)) ?_;rw[hd];exact h
def Nx (w:World) (S:Sk) (e:Ending) (w':World):Prop:=Zq w w'/\(((kM S).1≠0/\Zr e (.tuple #[.pointer none,Zi (kM S).1,Zi ((kM S).2:Nat)]))\/((kM S).1=0/\(kM S).2=0/\∃kb mb sb pb qb bb,Zr e (.tuple #[Zp kb,Zi 0,Zi 0])/\w.heap.size<=kb/\fF (λk=>k<w.heap.size) w' kb mb sb pb qb bb (A2 S)))
theorem Ge (ho:ae (λk=>¬k<w.heap.size) w w2):Zq w w2:=ho.mono (λk hk h=>h hk)
theorem jM.at {α:Type} {L:Lay α} {p:Option Addr} {xs:List α} (h:jM L U w p xs) (ho:Zn U w wv) {j:Nat} (hj:j<xs.length):∃g o,p=some ⟨g,o,none⟩/\U g/\kv L wv g o xs:=by
 obtain⟨g,o,h1,h2,h3⟩:=(h.keep ho).r Zo;exact⟨g,o,h1,h2,h3⟩
structure nT {α:Type} (st:Kn->α->Kn×Int) (xs:List α) (Q:Kn×Int×Nat) (w:World) (kb mb sb pb qb bb:Nat) (K:Kn) (j:Nat) (wr:World):Prop where
 q:dn st xs Q K j
 wf:aE K
 i:aA (λk=>k<w.heap.size) w kb mb sb pb qb bb [] K wr
theorem afq (S:Sk) (hS:A5 S) {vt vo vb vc vm vr vi:Value} (di:vu w vt vo vb vc vm vr vi S) {zb:Nat} (hz:w.heap[zb]?=some (.cells #[Zi S.n,vt,Zu (S.c:Int),vo,vb,vc,vm,vr,vi] 31 (0,0))):
  Zk 5 #[Zp zb] w (Nx w S):=by
 obtain⟨pt,ct,rfl, -⟩:=di.ts;obtain⟨po,co,aB, -⟩:=di.ob;obtain⟨kV,lV,cY, -⟩:=di.cP
 obtain⟨pc,cc,ew, -⟩:=di.cp;obtain⟨pm,cm,ia, -⟩:=di.mp;obtain⟨pr,cr,Dw, -⟩:=di.th;obtain⟨pi,ci,vd, -⟩:=di.iq;subst aB cY ew ia Dw vd;obtain⟨u4,kH,DO,Dr⟩:=di.ts.tu;have M6:=aa (di.ob.uu);have bW:=aa (di.cP.uu);have cZ:=aa (di.cp.uu);have dK:=aa (di.mp.uu);have xm:=aa (di.th.uu);have M5:=aa (di.iq.uu);have QI:=au hz
 have ar:Hid (∀wv,ae (λk=>¬k<w.heap.size) w wv->wv.cell? ⟨zb,0,none⟩=some (Zi S.n)/\wv.cell? ⟨zb,1,none⟩=some (.slice pt S.ts.length ct)/\wv.cell? ⟨zb,2,none⟩=some (Zu (S.c:Int))/\wv.cell? ⟨zb,3,none⟩=some (.slice po S.ob.length co)/\wv.cell? ⟨zb,4,none⟩=some (.slice kV S.cP.length lV)/\wv.cell? ⟨zb,5,none⟩=some (.slice pc S.cp.length cc)/\wv.cell? ⟨zb,6,none⟩=some (.slice pm S.mp.length cm)/\wv.cell? ⟨zb,7,none⟩=some (.slice pr S.th.length cr)/\wv.cell? ⟨zb,8,none⟩=some (.slice pi S.iq.length ci)):=λwv h=>by
  have h9:=ae.keep h hz (λh=>h QI);exact⟨Zl h9,Zl h9,Zl h9,Zl h9,Zl h9,Zl h9,Zl h9,Zl h9,Zl h9⟩
 obtain⟨R,hR⟩:=Ze (Nx w S);rw[<-hR]
 have sc:Hid (∀wv,ae (λk=>¬k<w.heap.size) w wv->(S.n<1\/256<S.n\/eP S.ts≠0)->R (.returned (.tuple #[.pointer none,Zi 1,Zi 0])) wv):=λwv h1 h2=>by
  rw[hR];refine⟨Ge h1,Or.inl ?_⟩;rw[Mr h2];exact⟨Zd,rfl⟩
 have sa:Hid (1<=S.n->S.n<=256->eP S.ts=0->∀wv K e n,jt S=(K,e,n)->e≠0->ae (λk=>¬k<w.heap.size) w wv->R (.returned (.tuple #[.pointer none,Zi e,Zi (n:Int)])) wv):=λh1 h2 h3 wv K e n h4 h5 h6=>by
  rw[hR];refine⟨Ge h6,Or.inl ?_⟩;rw[Ic h1 h2 h3,h4];exact⟨h5,rfl⟩
 have eO:Hid (1<=S.n->S.n<=256->eP S.ts=0->∀wv K kb mb sb pb qb bb,jt S=(K,0,0)->w.heap.size<=kb->fF (λk=>k<w.heap.size) wv kb mb sb pb qb bb (yP K)->ae (λk=>¬k<w.heap.size) w wv->R (.returned (.tuple #[Zp kb,Zi 0,Zi 0])) wv):=λh1 h2 h3 wv K kb mb sb pb qb bb h4 h5 h6 h7=>by
  rw[hR];refine⟨Ge h7,Or.inr ?_⟩;rw[Ic h1 h2 h3];refine⟨by rw[h4],by rw[h4],kb,mb,sb,pb,qb,bb,rfl,h5,?_⟩;unfold A2;rw[h4];exact h6
 obtain⟨w4,eF⟩:=Ze ((w.alloc (.cells #[.slice none 0 0,.slice none 0 0] 60)).alloc (.cells #[.slice none 0 0,.slice none 0 0] 65));obtain⟨sb,iB⟩:=Ze (w.heap.size);obtain⟨bb,oq⟩:=Ze (w.heap.size+1);obtain⟨kb,jV⟩:=Ze (w.heap.size+1+1)
 have kO:Hid (cn [p4 sb [] [],rP bb ⟨[],[]⟩] (λk=>k<w.heap.size) w w4):=by
  have h9:=(cn.store (w:=w) ⟨aD.nil (λk hk=>hk),ae.refl (λk=>¬k<w.heap.size) w⟩).Y3;rw[show(w.alloc (.cells #[.slice none 0 0,.slice none 0 0] 60)).heap.size=w.heap.size+1 by simp] at h9;rw[eF,iB,oq];exact h9
 have Kw:w4.heap.size=w.heap.size+1+1:=by rw[eF];simp
 obtain⟨w5,dN⟩:=Ze (w4.alloc (.cells (lU (.pointer none) (.pointer none) (.pointer none) sb bb qz S.c).toArray 75))
 have kD:Hid (cn [p4 sb [] [],rP bb ⟨[],[]⟩,kF kb (.cells (lU (.pointer none) (.pointer none) (.pointer none) sb bb (j7 0) S.c).toArray 75 (0,0))] (λk=>k<w.heap.size) w w5):=by
  have h9:=kO.j.block (lU (.pointer none) (.pointer none) (.pointer none) sb bb qz S.c).toArray 75;rw[Kw,<-jV,<-dN] at h9;exact h9
 have HKL:Hid (w.heap.size<=kb):=by show w.heap.size<=kb;omega
 have xl:Hid (∀wv,ae (λk=>¬k<w.heap.size) w wv->pj wv pt S.ts):=λwv h=>Dr.quiet (Ge h)
 have cX:Hid (S.ts.length<=ct/\ct<=maxLen):=⟨kH,DO⟩
 have HS:=aa hS;have c2:((w.alloc (.cells #[.slice none 0 0,.slice none 0 0] 60)).alloc (.cells #[.slice none 0 0,.slice none 0 0] 65)).cell? ⟨zb,2,none⟩=some (Zu (S.c:Int)):=by rw[<-eF];exact(ar.j _ kO.j.2).2.2.1
 clear hS di hz u4 kH DO Dr QI hR Kw;go_enter func5,ntmps5;go_upto_region 2 with(refine wpList_plain rfl (λ_ hK=>afK (.tmp 20) (.tmp 22) (.tmp 26) rfl 27 rfl rfl rfl rfl (hK _ _ ?_)))
 rw[<-jV,<-oq,<-iB,<-eF,<-dN];clear jV oq iB eF dN c2 kO;go_wp2_with fail
 go_loopw [6] (λd wr=>∃j:Nat,d=Zi (j:Int)/\j<=8/\Hid (cn [p4 sb [] [],rP bb ⟨[],[]⟩,kF kb (.cells (lU (.pointer none) (.pointer none) (.pointer none) sb bb (j7 j) S.c).toArray 75 (0,0))] (λk=>k<w.heap.size) w wr)) (λd _=>8 - (RowKit.intOf d).toNat)
 case atStart=>exact⟨0,rfl,Zo,kD⟩
 case round=>
  clear kD;obtain⟨j,rfl,hj,HB⟩:=hrel;by_cases ah:j<8
  ·have h1:(j:Int)<8:=Zo;have bf:0<=(j:Int)/\(j:Int)<8:=Zo;have jT:=Zf j Zo;obtain⟨yG,iQ⟩:=aeZ (.pointer none) (.pointer none) (.pointer none) sb bb S.c ah (HB.j.at (i:=2) rfl)
   have aG:Hid (cn [p4 sb [] [],rP bb ⟨[],[]⟩,kF kb (.cells (lU (.pointer none) (.pointer none) (.pointer none) sb bb (j7 (j+1)) S.c).toArray 75 (0,0))] (λk=>k<w.heap.size) w (wr.setCell ⟨kb,6+j*4,none⟩ (Zi (-1)))):=by
    have h9:=HB.j.put (i:=2) (o:=6+j*4) rfl (Zi (-1));rw[aeV _ _ _ _ _ _ ah] at h9;exact h9
   clear ah;go_wp2_with fail;go_roundw
   case rel=>exact⟨j+1,by go_num,Zo,aG⟩
   case measure=>exact Zm
  ·obtain rfl:j=8:=Zo;have h1:¬((8:Nat):Int)<8:=Zo;obtain⟨q0,q1,q2,q3,q4,q5,q6,q7,q8⟩:=ar.j _ HB.j.2;have hk:=HB.j.at (i:=2) rfl;have k0:wr.cell? ⟨kb,0,none⟩=some (.pointer none):=Zl hk;have iQ:=jA hk 0;clear ah hk;by_cases hn:S.n<1\/256<S.n
   ·have Bf:=aa (λw=>abi S.n hn w);have HE:Hid (S.n<1\/256<S.n\/eP S.ts≠0):=hn.elim Or.inl (λh=>Or.inr (Or.inl h));have gF:Hid (ae (λk=>¬k<w.heap.size) w (wr.setCell ⟨kb,0,none⟩ (.pointer none))):=(HB.j.put (i:=2) (o:=0) rfl (.pointer none)).2;clear hn;go_wp2_with fail;refine(Bf.j _).e1 ?_;go_wp2_with fail
    all_goals
     first|(go_ret3;exact sc.j _ gF.j HE.j)|exact sc.j _ gF.j HE.j
   ·obtain⟨Nn,Hj⟩:∃Nn:Nat,S.n=(Nn:Int):=⟨S.n.toNat,Zo⟩
    have dg:Hid (1<=Nn/\Nn<=256/\1<=S.n/\S.n<=256/\S.n.toNat=Nn):=by show 1<=Nn/\Nn<=256/\1<=S.n/\S.n<=256/\S.n.toNat=Nn;omega
    have IB:=aa (λw=>abh Nn dg.j.1 dg.j.2.1 w);have zv:=aa (λw=>abj (Nn:Int) (by have:=dg.j;omega) w);rw[Hj] at q0;replace ar:Hid (∀wv,ae (λk=>¬k<w.heap.size) w wv->Zc wv zb 0 (Zi (Nn:Int))/\Zc wv zb 1 (.slice pt S.ts.length ct)/\Zc wv zb 2 (Zu (S.c:Int))/\Zc wv zb 3 (.slice po S.ob.length co)/\Zc wv zb 4 (.slice kV S.cP.length lV)/\Zc wv zb 5 (.slice pc S.cp.length cc)/\Zc wv zb 6 (.slice pm S.mp.length cm)/\Zc wv zb 7 (.slice pr S.th.length cr)/\Zc wv zb 8 (.slice pi S.iq.length ci)):=λwv h=>by rw[<-Hj];exact ar.j wv h
    clear hn;go_wp2_with fail;refine(IB.j _).m ?_;rintro e w2 ⟨rfl,sq,o1,o2,aT⟩;have Rw:Zq wr w2:=by rw[aT];exact((ae.refl _ wr).alloc _).alloc _
    obtain⟨mb,fa⟩:=Ze (wr.heap.size+1);rw[<-fa] at sq|-;have lp:=HB.j.ref sq Zo (Nat.le_refl _) Rw;have hk:=lp.at (i:=2) rfl;have k0:w2.cell? ⟨kb,0,none⟩=some (.pointer none):=Zl hk;have iQ:=jA hk 0;obtain⟨w3,dz⟩:=Ze (w2.setCell ⟨kb,0,none⟩ (Zp mb))
    have bJ:Hid (cn [p4 sb [] [],rP bb ⟨[],[]⟩,kF kb (.cells (lU (Zp mb) (.pointer none) (.pointer none) sb bb (j7 8) S.c).toArray 75 (0,0)),sG mb Nn (λ_=>0)] (λk=>k<w.heap.size) w w3):=by
     have h9:=lp.put (i:=2) (o:=0) rfl (Zp mb);rw[aeY,<-dz] at h9;exact h9
    clear sq aT Rw fa lp hk q0 q1 q2 q3 q4 q5 q6 q7 q8 IB HB;go_upto_region 8 with fail
    rw[<-dz];clear dz k0 iQ;obtain⟨q0,q1,q2,q3,q4,q5,q6,q7,q8⟩:=ar.j _ bJ.j.2;have EN:=aa (abg w3 pt S.ts.length ct rfl cX.j.1 cX.j.2 (xl.j _ bJ.j.2));go_wp2_with fail;refine EN.j.m ?_;rintro e w4 ⟨cu,vX⟩;clear EN;rcases cu with⟨nC,rfl⟩|⟨uV,_,_,_,qb,rfl,KC,tj⟩
    ·have HE:Hid (S.n<1\/256<S.n\/eP S.ts≠0):=Or.inr (Or.inr (by rw[nC];decide));have ot:=bJ.j.quiet vX;have hk:=ot.at (i:=2) rfl;have k3:Zc w4 kb 3 (.pointer none):=Zl hk;have iQ:=jA hk 3;have gF:Hid (ae (λk=>¬k<w.heap.size) w (w4.setCell ⟨kb,3,none⟩ (.pointer none))):=(ot.put (i:=2) (o:=3) rfl (.pointer none)).2;clear nC vX ot hk q0 q1 q2 q3 q4 q5 q6 q7 q8;go_wp2_with fail
     all_goals
      first|(go_ret3;exact sc.j _ gF.j HE.j)|exact sc.j _ gF.j HE.j
    ·have ot:=bJ.j.more (za.bj qb S.ts 0 (S.ts.getD 0 (0,0)).2 [] 0) tj vX;replace sa:=aa (sa.j dg.j.2.2.1 dg.j.2.2.2.1 uV);replace eO:=aa (eO.j dg.j.2.2.1 dg.j.2.2.2.1 uV);have E4:=aa uV;have hk:=ot.at (i:=2) rfl;have k3:w4.cell? ⟨kb,3,none⟩=some (.pointer none):=Zl hk;have iQ:=jA hk 3;obtain⟨w5,dN⟩:=Ze (w4.setCell ⟨kb,3,none⟩ (Zp qb))
     have kD:Hid (cn [p4 sb [] [],rP bb ⟨[],[]⟩,kF kb (.cells (lU (Zp mb) (.pointer none) (Zp qb) sb bb (j7 8) S.c).toArray 75 (0,0)),sG mb Nn (λ_=>0),za qb S.ts 0 (S.ts.getD 0 (0,0)).2 [] 0] (λk=>k<w.heap.size) w w5):=by
      have h9:=ot.put (i:=2) (o:=3) rfl (Zp qb);rw[aeW,<-dN] at h9;exact h9
     clear uV vX tj KC ot hk q0 q1 q2 q3 q4 q5 q6 q7 q8 bJ;go_upto_region 11 with fail
     rw[<-dN];clear dN k3 iQ;obtain⟨q0,q1,q2,q3,q4,q5,q6,q7,q8⟩:=ar.j _ kD.j.2;go_wp2_with fail;refine(zv.j _).m ?_;rintro e w6 ⟨pb,rfl,KG,Ao,jE⟩;have LN:=kD.j.more (Cm.bj pb (Nn:Int) [] []) Ao jE;have hk:=LN.at (i:=2) rfl;have k2:w6.cell? ⟨kb,2,none⟩=some (.pointer none):=Zl hk;have iQ:=jA hk 2;obtain⟨w7,qA⟩:=Ze (w6.setCell ⟨kb,2,none⟩ (Zp pb))
     have Ni:Hid (nT cj S.ob (bz cj (rA S) S.ob 0) w kb mb sb pb qb bb (rA S) 0 w7):=by
      have h9:=LN.put (i:=2) (o:=2) rfl (Zp pb);rw[aeX,<-qA] at h9;have LX:=cn.ad8 (mb:=mb) (sb:=sb) (pb:=pb) (qb:=qb) (bb:=bb) (kb:=kb) h9
      have SO:aI (λk=>k<w.heap.size) w7 kb mb sb pb qb bb (.slice none 0 0) (rA S):=by
       unfold rA;rw[dg.j.2.2.2.2];exact LX
      have gY:Ck S.ts 0 (S.ts.getD 0 (0,0)).2:=N2 E4.j;exact⟨dn.start cj (rA S) S.ob,(aE.start ⟨dg.j.2.2.1,dg.j.2.2.2.1⟩ gY).1,⟨⟨_,λ_ h=>h,λp hp=>(by cases hp),_,SO⟩,λp hp=>(by cases hp),h9.2⟩⟩
     clear KG Ao jE LN hk q0 q1 q2 q3 q4 q5 q6 q7 q8 kD zv;go_upto_region 14 with fail
     rw[<-qA];clear qA k2 iQ;have sM:Hid (jt S=(aY cF (aY bP (aY bK (aY bY (aY cV (bz cj (rA S) S.ob 0) S.cP) S.cp) S.mp) S.th) S.iq)):=rfl;obtain⟨Q1,hQ⟩:∃Q,Q=bz cj (rA S) S.ob 0:=⟨_,rfl⟩
     rw[<-hQ] at sM Ni;have iu:=Ni;clear hQ Ni;go_wp2_with fail
     go_loopw [7,8] (λ_ d wr=>∃j:Nat,∃K,d=Zi (j:Int)/\j<=S.ob.length/\Hid (nT cj S.ob Q1 w kb mb sb pb qb bb K j wr)) (λ_ d _=>S.ob.length - (RowKit.intOf d).toNat)
     case atStart=>exact⟨0,_,rfl,Zo,iu⟩
     case round=>
      clear iu;obtain⟨j,K,rfl,hj,HI⟩:=hrel;obtain⟨q0,q1,q2,q3,q4,q5,q6,q7,q8⟩:=ar.j _ HI.j.i.o;by_cases ah:j<S.ob.length
      ·have h1:(j:Int)<(S.ob.length:Int):=Zo;have bf:0<=(j:Int)/\(j:Int)<(S.ob.length:Int):=Zo;have jT:IntKind.i64.wrap ((j:Int)+1)=(j:Int)+1:=by have:=M6.j.n;rw[IntKind.wrap_i64];omega
       obtain⟨g,o,rfl,gR,dM⟩:=M6.j.at HI.j.i.o ah;have cW:=aa (HS.j.ob _ (List.getElem_mem ah))
       have aG:Hid (∀K2 e2,cj K S.ob[j]=(K2,e2)->aE K2/\(e2=0->dn cj S.ob Q1 K2 (j+1))/\(e2≠0->jt S=(K2,e2,j))):=λK2 e2 h=>by
        have hw:=HI.j.wf;have hr:=cW.j;have hk:=hw.obj S.ob[j] hr.2.1;have hb:=HI.j.q.bad ah;have hn:=HI.j.q.next ah;rw[h] at hk hb hn;refine⟨hk,hn,λh0=>?_⟩;have dS:=h0;rw[sM.j,hb h0,gV _ (show(K2,e2,j).2.1≠0 from dS),gV _ (show(K2,e2,j).2.1≠0 from dS),gV _ (show(K2,e2,j).2.1≠0 from dS),gV _ (show(K2,e2,j).2.1≠0 from dS),gV _ (show(K2,e2,j).2.1≠0 from dS)]
       obtain⟨c0,c1,c2⟩:=dM.ob ah;have cC:=aa (HI.j.i.Ia (λV hV h=>aft h HI.j.wf S.ob[j].1 S.ob[j].2.1 S.ob[j].2.2 cW.j.2.1 (hV g gR) (Nat.lt_of_lt_of_le gR HI.j.i.o.size) c0 c1 c2));obtain⟨KE,aS⟩:=Ze (cj K S.ob[j]);obtain⟨K2,e2⟩:=KE
       replace cC:Hid (Zk 13 #[Zp kb,.pointer (some ⟨g,o+j*3,none⟩)] wr λe w'=>Zr e (Zi e2)/\Hid (aA (λk=>k<w.heap.size) w kb mb sb pb qb bb [] K2 w')):=by
        have h9:=cC.j;rw[show cj K (S.ob[j].1,S.ob[j].2.1,S.ob[j].2.2)=(K2,e2) from aS.symm] at h9;exact h9
       have dH:=aa (aG.j K2 e2 aS.symm);clear aS aG cW dM gR c0 c1 c2 ah;go_wp2_with fail;refine cC.j.m ?_;rintro e w8 ⟨rfl,H8⟩;clear cC q0 q1 q2 q3 q4 q5 q6 q7 q8;by_cases e0:e2=0
       ·subst e0;have dg:Hid (nT cj S.ob Q1 w kb mb sb pb qb bb K2 (j+1) w8):=⟨by first|exact dH.j.2.1 rfl|exact dH.j.2.1 trivial|exact dH.j.2.1,dH.j.1,H8.j⟩
        clear dH;go_wp2_with fail;go_roundw
        case rel=>exact⟨j+1,K2,by go_num,Zo,dg⟩
        case measure=>exact Zm
       ·have e1:(e2 !=0)=true:=by simpa using e0
        have HE:=aa (sa.j _ _ _ _ (dH.j.2.2 e0) e0 H8.j.o);clear e0 dH;go_wp2_with fail
        all_goals
         first|(go_ret3;exact HE.j)|exact HE.j
      ·obtain rfl:j=S.ob.length:=Zo;have h1:¬((S.ob.length:Nat):Int)<((S.ob.length:Nat):Int):=Zo;have mE:=HI.j.q.fin (Nat.le_refl _)
       have dL:Hid (jt S=(aY cF (aY bP (aY bK (aY bY (bz cV K S.cP 0) S.cp) S.mp) S.th) S.iq)):=by
        show jt S=_;rw[sM.j,mE]
        first|done|rfl
       obtain⟨Q2,hQ⟩:∃Q,Q=bz cV K S.cP 0:=⟨_,rfl⟩
       rw[<-hQ] at dL;have lE:Hid (nT cV S.cP Q2 w kb mb sb pb qb bb K 0 wr):=⟨by rw[hQ];exact dn.start cV K S.cP,HI.j.wf,HI.j.i⟩
       clear mE hQ HI sM ah q0 q1 q2 M6;go_wp2_with fail
       go_loopw [9,10,11] (λd _ _ wr=>∃j:Nat,∃K,d=Zi (j:Int)/\j<=S.cP.length/\Hid (nT cV S.cP Q2 w kb mb sb pb qb bb K j wr)) (λd _ _ _=>S.cP.length - (RowKit.intOf d).toNat)
       case atStart=>exact⟨0,_,rfl,Zo,lE⟩
       case round=>
        clear lE;obtain⟨j,K,rfl,hj,HI⟩:=hrel;obtain⟨q0,q1,q2,q3,q4,q5,q6,q7,q8⟩:=ar.j _ HI.j.i.o;by_cases ah:j<S.cP.length
        ·have h1:(j:Int)<(S.cP.length:Int):=Zo;have bf:0<=(j:Int)/\(j:Int)<(S.cP.length:Int):=Zo;have jT:IntKind.i64.wrap ((j:Int)+1)=(j:Int)+1:=by have:=bW.j.n;rw[IntKind.wrap_i64];omega
         obtain⟨g,o,rfl,gR,dM⟩:=bW.j.at HI.j.i.o ah;have cW:=aa (HS.j.cP _ (List.getElem_mem ah))
         have aG:Hid (∀K2 e2,cV K S.cP[j]=(K2,e2)->aE K2/\(e2=0->dn cV S.cP Q2 K2 (j+1))/\(e2≠0->jt S=(K2,e2,j))):=λK2 e2 h=>by
          have hw:=HI.j.wf;have hr:=cW.j;have hk:=hw.Eu S.cP[j]
          have hb:=HI.j.q.bad ah;have hn:=HI.j.q.next ah;rw[h] at hk hb hn;refine⟨hk,hn,λh0=>?_⟩;have dS:=h0;rw[dL.j,hb h0,gV _ (show(K2,e2,j).2.1≠0 from dS),gV _ (show(K2,e2,j).2.1≠0 from dS),gV _ (show(K2,e2,j).2.1≠0 from dS),gV _ (show(K2,e2,j).2.1≠0 from dS)]
         obtain⟨b0,b1⟩:=dM.cP ah
         obtain⟨x,hx⟩:=Ze (S.cP[j]);rw[<-hx] at b0 b1 cW aG;obtain⟨a,d⟩:=x;dsimp only at b0 b1 cW;change wr.cell? ⟨g,o+j*2+1,none⟩=some (.string ⟨d.toArray⟩) at b1;obtain⟨w8,dt⟩:=Ze (wr.alloc (.cells #[Zi a,.string ⟨d.toArray⟩] 89));obtain⟨xb,bQ⟩:=Ze (wr.heap.size);have H8:Hid (aA (λk=>k<w.heap.size) w kb mb sb pb qb bb [(xb,.cells #[Zi a,.string ⟨d.toArray⟩] 89 (0,0))] K w8):=by rw[dt,bQ];exact HI.j.i.alloc _
         obtain⟨pg,rH⟩:=Ze (Int.tdiv a 4096);obtain⟨of,Aw⟩:=Ze (Int.tmod a 4096)
         have yx:(0<=a->pg=a/4096)/\(0<=a->of=a % 4096)/\IntKind.i64.wrap pg=pg:=by
          refine⟨λh=>rH.trans (Bx h),λh=>Aw.trans (OT h),?_⟩;have hai:=cW.j.1;unfold aj at hai;rw[IntKind.wrap_i64,rH];by_cases h0:0<=a
          ·rw[Bx h0];omega
          ·have e:Int.tdiv a 4096= - Int.tdiv (-a) 4096:=by rw[Int.neg_tdiv];omega
           rw[e,Bx (show 0<= -a from Zo)];omega
         have rV:=aa yx;have QW:=yx.2.2;have gH:=aa (H8.j.alive HI.j.wf.p 2 pg);obtain⟨B,hB⟩:=Ze (dk K.os K.rs (2,pg));rw[<-hB] at gH;have HB:=aa hB;have ae5:=rH.symm;have aea:=Aw.symm;have uh:Hid (∀K' wv,aA (λk=>k<w.heap.size) w kb mb sb pb qb bb [(xb,.cells #[Zi a,.string ⟨d.toArray⟩] 89 (0,0))] K' wv->Zc wv kb 0 (Zp mb)/\Zc wv xb 0 (Zi a)/\Zc wv xb 1 (.string ⟨d.toArray⟩)):=λK' wv h=>⟨h.c.1,h.two List.mem_cons_self⟩
         have HWP:=aa HI.j.wf.p;obtain⟨r0,r1⟩:=H8.j.two List.mem_cons_self;clear hx dM gR yx hB rH Aw ah;go_upto_region 24 with fail
         rw[<-dt,<-bQ];clear dt bQ b0 b1 q0 q1 q2 q3 q4 q5 q6 q7 q8;go_wp2_with fail;refine gH.j.m ?_;rintro e w9 ⟨rfl,H9⟩;clear gH r0 r1 H8;obtain⟨k0,r0,r1⟩:=uh.j _ _ H9.j
         cases B with
         |false=>
          have HE:Hid (R (.returned (.tuple #[.pointer none,Zi 6,Zi (j:Int)])) w9):=by
           have h6:cV K (a,d)=(K,6):=by
            by_cases a0:a<0
            ·exact Mo a0
            ·exact TD (by rw[<-rV.j.1 Zo];exact HB.j.symm)
           exact sa.j _ _ _ _ ((aG.j K 6 h6).2.2 Zd) Zd H9.j.o
          clear aG;go_wp2_with fail
          all_goals
           first|(go_ret3;exact HE.j)|exact HE.j
         |true=>
          by_cases a0:a<0
          ·have HE:Hid (R (.returned (.tuple #[.pointer none,Zi 6,Zi (j:Int)])) w9):=sa.j _ _ _ _ ((aG.j K 6 (Mo a0)).2.2 Zd) Zd H9.j.o;clear aG;go_wp2_with fail
           all_goals
            first|(go_ret3;exact HE.j)|exact HE.j
          ·have Ru:of=a % 4096:=rV.j.2.1 Zo;have rD:IntKind.i64.wrap (of+(d.length:Int))=of+(d.length:Int):=by have:=cW.j.2;rw[IntKind.wrap_i64];omega
           have qR:=aa (rV.j.1 Zo);have Un:=aa Ru;clear Ru;by_cases l1:4096<of+(d.length:Int)
           ·have HE:Hid (R (.returned (.tuple #[.pointer none,Zi 6,Zi (j:Int)])) w9):=sa.j _ _ _ _ ((aG.j K 6 (TC (by rw[<-Un.j];exact l1))).2.2 Zd) Zd H9.j.o;clear aG;go_wp2_with fail
            all_goals
             first|(go_ret3;exact HE.j)|exact HE.j
           ·have hg:=TB HWP.j (d:=d) (a:=a) Zo (by rw[<-qR.j];exact HB.j.symm) (by rw[<-Un.j];exact l1);have dH:=aa (aG.j _ _ hg.1);have It:=aa (H9.j.drew.call (λV vT h=>((h.write a d (by have:=cW.j.2;omega)).mono (λ_ _ h=>⟨h.1,⟨vT,h.2.1⟩,h.2.2⟩))));have af:=aa (uh.j _ _ H9.j.drew);have ak:=af;clear hg aG;go_upto_region 27 with fail
            clear k0 r0 r1;go_region_held3 (λwv=>Zc wv kb 0 (Zp mb)/\Zc wv xb 0 (Zi a)/\Zc wv xb 1 (.string ⟨d.toArray⟩)) (with_reducible (first|exact af.j|exact ak.j)) (first|(go_at_call 15;refine It.j.m ?_;rintro e ji ⟨rfl,eX⟩;have ak:=aa (uh.j _ _ eX.j)));have dg:Hid (nT cV S.cP Q2 w kb mb sb pb qb bb _ (j+1) ji):=⟨by first|exact dH.j.2.1 rfl|exact dH.j.2.1 trivial|exact dH.j.2.1,dH.j.1,eX.j.tail⟩
            clear dH It af ak;go_wp2_with fail;go_roundw
            case rel=>exact⟨j+1,_,by go_num,Zo,dg⟩
            case measure=>exact Zm
        ·obtain rfl:j=S.cP.length:=Zo
         have h1:¬((S.cP.length:Nat):Int)<((S.cP.length:Nat):Int):=Zo;have mE:=HI.j.q.fin (Nat.le_refl _)
         have iH:Hid (jt S=(aY cF (aY bP (aY bK (bz bY K S.cp 0) S.mp) S.th) S.iq)):=by
          show jt S=_;rw[dL.j,mE]
          first|done|rfl
         obtain⟨Q3,hQ⟩:∃Q,Q=bz bY K S.cp 0:=⟨_,rfl⟩
         rw[<-hQ] at iH;have qU:Hid (nT bY S.cp Q3 w kb mb sb pb qb bb K 0 wr):=⟨by rw[hQ];exact dn.start bY K S.cp,HI.j.wf,HI.j.i⟩
         clear mE hQ HI dL ah q0 q1 q2 bW;go_wp2_with fail
         go_loopw [7,12] (λ_ d wr=>∃j:Nat,∃K,d=Zi (j:Int)/\j<=S.cp.length/\Hid (nT bY S.cp Q3 w kb mb sb pb qb bb K j wr)) (λ_ d _=>S.cp.length - (RowKit.intOf d).toNat)
         case atStart=>exact⟨0,_,rfl,Zo,qU⟩
         case round=>
          clear qU;obtain⟨j,K,rfl,hj,HI⟩:=hrel;obtain⟨q0,q1,q2,q3,q4,q5,q6,q7,q8⟩:=ar.j _ HI.j.i.o;by_cases ah:j<S.cp.length
          ·have h1:(j:Int)<(S.cp.length:Int):=Zo;have bf:0<=(j:Int)/\(j:Int)<(S.cp.length:Int):=Zo;have jT:IntKind.i64.wrap ((j:Int)+1)=(j:Int)+1:=by have:=cZ.j.n;rw[IntKind.wrap_i64];omega
           obtain⟨g,o,rfl,gR,dM⟩:=cZ.j.at HI.j.i.o ah;have cW:=aa (HS.j.cp _ (List.getElem_mem ah))
           have aG:Hid (∀K2 e2,bY K S.cp[j]=(K2,e2)->aE K2/\(e2=0->dn bY S.cp Q3 K2 (j+1))/\(e2≠0->jt S=(K2,e2,j))):=λK2 e2 h=>by
            have hw:=HI.j.wf;have hr:=cW.j;have hk:=hw.cap S.cp[j] hr.1 hr.2.1;have hb:=HI.j.q.bad ah;have hn:=HI.j.q.next ah;rw[h] at hk hb hn;refine⟨hk,hn,λh0=>?_⟩;have dS:=h0;rw[iH.j,hb h0,gV _ (show(K2,e2,j).2.1≠0 from dS),gV _ (show(K2,e2,j).2.1≠0 from dS),gV _ (show(K2,e2,j).2.1≠0 from dS)]
           have cC:=aa (HI.j.i.Ia (λV hV h=>afv h HI.j.wf S.cp[j] cW.j.1 (hV g gR) (Nat.lt_of_lt_of_le gR HI.j.i.o.size) (dM.cp ah)));obtain⟨KE,aS⟩:=Ze (bY K S.cp[j]);obtain⟨K2,e2⟩:=KE
           replace cC:Hid (Zk 16 #[Zp kb,.pointer (some ⟨g,o+j*12,none⟩)] wr λe w'=>Zr e (Zi e2)/\Hid (aA (λk=>k<w.heap.size) w kb mb sb pb qb bb [] K2 w')):=by
            have h9:=cC.j;rw[show bY K S.cp[j]=(K2,e2) from aS.symm] at h9;exact h9
           have dH:=aa (aG.j K2 e2 aS.symm);clear aS aG cW dM gR ah;go_wp2_with fail;refine cC.j.m ?_;rintro e w8 ⟨rfl,H8⟩;clear cC q0 q1 q2 q3 q4 q5 q6 q7 q8;by_cases e0:e2=0
           ·subst e0;have dg:Hid (nT bY S.cp Q3 w kb mb sb pb qb bb K2 (j+1) w8):=⟨by first|exact dH.j.2.1 rfl|exact dH.j.2.1 trivial|exact dH.j.2.1,dH.j.1,H8.j⟩
            clear dH;go_wp2_with fail;go_roundw
            case rel=>exact⟨j+1,K2,by go_num,Zo,dg⟩
            case measure=>exact Zm
           ·have e1:(e2 !=0)=true:=by simpa using e0
            have HE:=aa (sa.j _ _ _ _ (dH.j.2.2 e0) e0 H8.j.o);clear e0 dH;go_wp2_with fail
            all_goals
             first|(go_ret3;exact HE.j)|exact HE.j
          ·obtain rfl:j=S.cp.length:=Zo;have h1:¬((S.cp.length:Nat):Int)<((S.cp.length:Nat):Int):=Zo;have mE:=HI.j.q.fin (Nat.le_refl _)
           have vy:Hid (jt S=(aY cF (aY bP (bz bK K S.mp 0) S.th) S.iq)):=by
            show jt S=_;rw[iH.j,mE]
            first|done|rfl
           obtain⟨Q4,hQ⟩:∃Q,Q=bz bK K S.mp 0:=⟨_,rfl⟩
           rw[<-hQ] at vy;have IF:Hid (nT bK S.mp Q4 w kb mb sb pb qb bb K 0 wr):=⟨by rw[hQ];exact dn.start bK K S.mp,HI.j.wf,HI.j.i⟩
           clear mE hQ HI iH ah q0 q1 q2 cZ;go_wp2_with fail
           go_loopw [7,13] (λ_ d wr=>∃j:Nat,∃K,d=Zi (j:Int)/\j<=S.mp.length/\Hid (nT bK S.mp Q4 w kb mb sb pb qb bb K j wr)) (λ_ d _=>S.mp.length - (RowKit.intOf d).toNat)
           case atStart=>exact⟨0,_,rfl,Zo,IF⟩
           case round=>
            clear IF;obtain⟨j,K,rfl,hj,HI⟩:=hrel;obtain⟨q0,q1,q2,q3,q4,q5,q6,q7,q8⟩:=ar.j _ HI.j.i.o;by_cases ah:j<S.mp.length
            ·have h1:(j:Int)<(S.mp.length:Int):=Zo;have bf:0<=(j:Int)/\(j:Int)<(S.mp.length:Int):=Zo;have jT:IntKind.i64.wrap ((j:Int)+1)=(j:Int)+1:=by have:=dK.j.n;rw[IntKind.wrap_i64];omega
             obtain⟨g,o,rfl,gR,dM⟩:=dK.j.at HI.j.i.o ah;have cW:=aa (HS.j.mp _ (List.getElem_mem ah))
             have aG:Hid (∀K2 e2,bK K S.mp[j]=(K2,e2)->aE K2/\(e2=0->dn bK S.mp Q4 K2 (j+1))/\(e2≠0->jt S=(K2,e2,j))):=λK2 e2 h=>by
              have hw:=HI.j.wf;have hr:=cW.j;have hk:=hw.map S.mp[j];have hb:=HI.j.q.bad ah;have hn:=HI.j.q.next ah;rw[h] at hk hb hn;refine⟨hk,hn,λh0=>?_⟩;have dS:=h0;rw[vy.j,hb h0,gV _ (show(K2,e2,j).2.1≠0 from dS),gV _ (show(K2,e2,j).2.1≠0 from dS)]
             have cC:=aa (HI.j.i.Ia (λV hV h=>afu h HI.j.wf S.mp[j].at'.1 S.mp[j].at'.2 S.mp[j].root S.mp[j].va cW.j.2.1 S.mp[j].rights cW.j.2.2.1 (hV g gR) (Nat.lt_of_lt_of_le gR HI.j.i.o.size) (dM.mp ah)));obtain⟨KE,aS⟩:=Ze (bK K S.mp[j]);obtain⟨K2,e2⟩:=KE
             replace cC:Hid (Zk 17 #[Zp kb,.pointer (some ⟨g,o+j*5,none⟩)] wr λe w'=>Zr e (Zi e2)/\Hid (aA (λk=>k<w.heap.size) w kb mb sb pb qb bb [] K2 w')):=by
              have h9:=cC.j;rw[show bK K ⟨(S.mp[j].at'.1,S.mp[j].at'.2),S.mp[j].root,S.mp[j].va,S.mp[j].rights⟩=(K2,e2) from aS.symm] at h9;exact h9
             have dH:=aa (aG.j K2 e2 aS.symm);clear aS aG cW dM gR ah;go_wp2_with fail;refine cC.j.m ?_;rintro e w8 ⟨rfl,H8⟩;clear cC q0 q1 q2 q3 q4 q5 q6 q7 q8;by_cases e0:e2=0
             ·subst e0;have dg:Hid (nT bK S.mp Q4 w kb mb sb pb qb bb K2 (j+1) w8):=⟨by first|exact dH.j.2.1 rfl|exact dH.j.2.1 trivial|exact dH.j.2.1,dH.j.1,H8.j⟩
              clear dH;go_wp2_with fail;go_roundw
              case rel=>exact⟨j+1,K2,by go_num,Zo,dg⟩
              case measure=>exact Zm
             ·have e1:(e2 !=0)=true:=by simpa using e0
              have HE:=aa (sa.j _ _ _ _ (dH.j.2.2 e0) e0 H8.j.o);clear e0 dH;go_wp2_with fail
              all_goals
               first|(go_ret3;exact HE.j)|exact HE.j
            ·obtain rfl:j=S.mp.length:=Zo;have h1:¬((S.mp.length:Nat):Int)<((S.mp.length:Nat):Int):=Zo;have mE:=HI.j.q.fin (Nat.le_refl _)
             have py:Hid (jt S=(aY cF (bz bP K S.th 0) S.iq)):=by
              show jt S=_;rw[vy.j,mE]
              first|done|rfl
             obtain⟨Q5,hQ⟩:∃Q,Q=bz bP K S.th 0:=⟨_,rfl⟩
             rw[<-hQ] at py;have Cy:Hid (nT bP S.th Q5 w kb mb sb pb qb bb K 0 wr):=⟨by rw[hQ];exact dn.start bP K S.th,HI.j.wf,HI.j.i⟩
             clear mE hQ HI vy ah q0 q1 q2 dK;go_wp2_with fail
             go_loopw [7,14] (λ_ d wr=>∃j:Nat,∃K,d=Zi (j:Int)/\j<=S.th.length/\Hid (nT bP S.th Q5 w kb mb sb pb qb bb K j wr)) (λ_ d _=>S.th.length - (RowKit.intOf d).toNat)
             case atStart=>exact⟨0,_,rfl,Zo,Cy⟩
             case round=>
              clear Cy;obtain⟨j,K,rfl,hj,HI⟩:=hrel;obtain⟨q0,q1,q2,q3,q4,q5,q6,q7,q8⟩:=ar.j _ HI.j.i.o;by_cases ah:j<S.th.length
              ·have h1:(j:Int)<(S.th.length:Int):=Zo;have bf:0<=(j:Int)/\(j:Int)<(S.th.length:Int):=Zo;have jT:IntKind.i64.wrap ((j:Int)+1)=(j:Int)+1:=by have:=xm.j.n;rw[IntKind.wrap_i64];omega
               obtain⟨g,o,rfl,gR,dM⟩:=xm.j.at HI.j.i.o ah;have cW:=aa (HS.j.th _ (List.getElem_mem ah))
               have aG:Hid (∀K2 e2,bP K S.th[j]=(K2,e2)->aE K2/\(e2=0->dn bP S.th Q5 K2 (j+1))/\(e2≠0->jt S=(K2,e2,j))):=λK2 e2 h=>by
                have hw:=HI.j.wf;have hr:=cW.j;have hk:=hw.dh S.th[j] hr.1;have hb:=HI.j.q.bad ah;have hn:=HI.j.q.next ah;rw[h] at hk hb hn;refine⟨hk,hn,λh0=>?_⟩;have dS:=h0;rw[py.j,hb h0,gV _ (show(K2,e2,j).2.1≠0 from dS)]
               have cC:=aa (HI.j.i.Ia (λV hV h=>afr h HI.j.wf S.th[j] cW.j.1 (hV g gR) (Nat.lt_of_lt_of_le gR HI.j.i.o.size) (dM.th ah)));obtain⟨KE,aS⟩:=Ze (bP K S.th[j]);obtain⟨K2,e2⟩:=KE
               replace cC:Hid (Zk 18 #[Zp kb,.pointer (some ⟨g,o+j*37,none⟩)] wr λe w'=>Zr e (Zi e2)/\Hid (aA (λk=>k<w.heap.size) w kb mb sb pb qb bb [] K2 w')):=by
                have h9:=cC.j;rw[show bP K S.th[j]=(K2,e2) from aS.symm] at h9;exact h9
               have dH:=aa (aG.j K2 e2 aS.symm);clear aS aG cW dM gR ah;go_wp2_with fail;refine cC.j.m ?_;rintro e w8 ⟨rfl,H8⟩;clear cC q0 q1 q2 q3 q4 q5 q6 q7 q8;by_cases e0:e2=0
               ·subst e0;have dg:Hid (nT bP S.th Q5 w kb mb sb pb qb bb K2 (j+1) w8):=⟨by first|exact dH.j.2.1 rfl|exact dH.j.2.1 trivial|exact dH.j.2.1,dH.j.1,H8.j⟩
                clear dH;go_wp2_with fail;go_roundw
                case rel=>exact⟨j+1,K2,by go_num,Zo,dg⟩
                case measure=>exact Zm
               ·have e1:(e2 !=0)=true:=by simpa using e0
                have HE:=aa (sa.j _ _ _ _ (dH.j.2.2 e0) e0 H8.j.o);clear e0 dH;go_wp2_with fail
                all_goals
                 first|(go_ret3;exact HE.j)|exact HE.j
              ·obtain rfl:j=S.th.length:=Zo;have h1:¬((S.th.length:Nat):Int)<((S.th.length:Nat):Int):=Zo;have mE:=HI.j.q.fin (Nat.le_refl _)
               have zu:Hid (jt S=(bz cF K S.iq 0)):=by
                show jt S=_;rw[py.j,mE]
                first|done|rfl
               obtain⟨Q6,hQ⟩:∃Q,Q=bz cF K S.iq 0:=⟨_,rfl⟩
               rw[<-hQ] at zu;have IE:Hid (nT cF S.iq Q6 w kb mb sb pb qb bb K 0 wr):=⟨by rw[hQ];exact dn.start cF K S.iq,HI.j.wf,HI.j.i⟩
               clear mE hQ HI py ah q0 q1 q2 xm;go_wp2_with fail
               go_loopw [15,16,17] (λd _ _ wr=>∃j:Nat,∃K,d=Zi (j:Int)/\j<=S.iq.length/\Hid (nT cF S.iq Q6 w kb mb sb pb qb bb K j wr)) (λd _ _ _=>S.iq.length - (RowKit.intOf d).toNat)
               case atStart=>exact⟨0,_,rfl,Zo,IE⟩
               case round=>
                clear IE;obtain⟨j,K,rfl,hj,HI⟩:=hrel;obtain⟨q0,q1,q2,q3,q4,q5,q6,q7,q8⟩:=ar.j _ HI.j.i.o;by_cases ah:j<S.iq.length
                ·have h1:(j:Int)<(S.iq.length:Int):=Zo;have bf:0<=(j:Int)/\(j:Int)<(S.iq.length:Int):=Zo;have jT:IntKind.i64.wrap ((j:Int)+1)=(j:Int)+1:=by have:=M5.j.n;rw[IntKind.wrap_i64];omega
                 obtain⟨g,o,rfl,gR,dM⟩:=M5.j.at HI.j.i.o ah;have cW:=aa (HS.j.iq _ (List.getElem_mem ah))
                 have aG:Hid (∀K2 e2,cF K S.iq[j]=(K2,e2)->aE K2/\(e2=0->dn cF S.iq Q6 K2 (j+1))/\(e2≠0->jt S=(K2,e2,j))):=λK2 e2 h=>by
                  have hw:=HI.j.wf;have hr:=cW.j;have hk:=hw.irq S.iq[j];have hb:=HI.j.q.bad ah;have hn:=HI.j.q.next ah;rw[h] at hk hb hn;refine⟨hk,hn,λh0=>?_⟩;have dS:=h0;rw[zu.j,hb h0]
                 obtain⟨b0,b1,b2⟩:=dM.iq ah;obtain⟨x,hx⟩:=Ze (S.iq[j]);rw[<-hx] at b0 b1 b2 cW aG;obtain⟨x1,x2,x3⟩:=x;dsimp only at b0 b1 b2 cW;obtain⟨w8,dt⟩:=Ze (wr.alloc (.cells #[Zi x1,Zi x2,Zu x3] 112));obtain⟨xb,bQ⟩:=Ze (wr.heap.size);have H8:Hid (aA (λk=>k<w.heap.size) w kb mb sb pb qb bb [(xb,.cells #[Zi x1,Zi x2,Zu x3] 112 (0,0))] K w8):=by rw[dt,bQ];exact HI.j.i.alloc _
                 have gH:=aa (H8.j.alive HI.j.wf.p 8 x2);obtain⟨B,hB⟩:=Ze (dk K.os K.rs (8,x2));rw[<-hB] at gH;have qc:Hid (cF K (x1,x2,x3)=(if x1<0\/7<x1 then (K,1) else if B=false then (K,6) else if (K.L.getD x1.toNat .df).dj≠ -1 then (K,7) else ({K with L:=K.L.set x1.toNat ⟨x2,x3,false,false⟩},0))):=by rw[hB];exact rfl
                 have uh:Hid (∀K' wv,aA (λk=>k<w.heap.size) w kb mb sb pb qb bb [(xb,.cells #[Zi x1,Zi x2,Zu x3] 112 (0,0))] K' wv->Zc wv xb 0 (Zi x1)/\Zc wv xb 1 (Zi x2)/\Zc wv xb 2 (Zu x3)):=λK' wv h=>⟨(cell_of_row _ _ 0 _ _ (0,0) (h.at List.mem_cons_self)).trans rfl,(cell_of_row _ _ 1 _ _ (0,0) (h.at List.mem_cons_self)).trans rfl,(cell_of_row _ _ 2 _ _ (0,0) (h.at List.mem_cons_self)).trans rfl⟩
                 have nP:Hid (K.L.length=8/\∀l∈K.L,l.dj= -1\/0<=l.dj):=⟨HI.j.wf.ll,HI.j.wf.lb⟩
                 obtain⟨r0,r1,r2⟩:=uh.j _ _ H8.j;clear hx dM gR hB ah;go_upto_region 50 with fail
                 rw[<-dt,<-bQ];clear dt bQ b0 b1 b2 q0 q1 q2 q3 q4 q5 q6 q7 q8;go_wp2_with fail;refine gH.j.m ?_;rintro e w9 ⟨rfl,H9⟩;clear gH r0 r1 r2 H8;obtain⟨r0,r1,r2⟩:=uh.j _ _ H9.j;by_cases n0:x1<0
                 ·have HE:Hid (R (.returned (.tuple #[.pointer none,Zi 1,Zi (j:Int)])) w9):=sa.j _ _ _ _ ((aG.j K 1 (by rw[qc.j,if_pos (Or.inl n0)])).2.2 Zd) Zd H9.j.o;clear aG qc;go_wp2_with fail
                  all_goals
                   first|(go_ret3;exact HE.j)|exact HE.j
                 by_cases n7:7<x1
                 ·have HE:Hid (R (.returned (.tuple #[.pointer none,Zi 1,Zi (j:Int)])) w9):=sa.j _ _ _ _ ((aG.j K 1 (by rw[qc.j,if_pos (Or.inr n7)])).2.2 Zd) Zd H9.j.o;clear aG qc;go_wp2_with fail
                  all_goals
                   first|(go_ret3;exact HE.j)|exact HE.j
                 rw[if_neg (λh=>h.elim n0 n7)] at qc;obtain⟨li,KX⟩:∃li:Nat,x1=(li:Int):=⟨x1.toNat,Zo⟩
                 subst KX;rw[Int.toNat_natCast] at qc;have aeg:li<8:=Zo;have eM:=aa aeg;have agZ:0<=(li:Int)/\(li:Int)<8:=Zo
                 cases B with
                 |false=>
                  have HE:Hid (R (.returned (.tuple #[.pointer none,Zi 6,Zi (j:Int)])) w9):=sa.j _ _ _ _ ((aG.j K 6 (by rw[qc.j];first|rw[if_pos rfl]|rw[if_pos trivial])).2.2 Zd) Zd H9.j.o;clear aG qc;go_wp2_with fail
                  all_goals
                   first|(go_ret3;exact HE.j)|exact HE.j
                 |true=>
                  replace qc:Hid (cF K ((li:Int),x2,x3)=(if (K.L.getD li .df).dj≠ -1 then (K,7) else ({K with L:=K.L.set li ⟨x2,x3,false,false⟩},0))):=by
                   have h9:=qc.j;rw[if_neg Zd] at h9;exact h9
                  have AA:li<K.L.length:=by have:=nP.j.1;omega
                  have fu:K.L.getD li .df=K.L[li]:=by simp[List.getD,AA]
                  obtain⟨gn,kk⟩:=H9.j.line AA;have bq:=nP.j.2 _ (List.getElem_mem AA);rw[<-fu] at gn bq;obtain⟨bl,cw⟩:=Ze ((K.L.getD li .df).dj);rw[<-cw] at gn qc bq;clear cw fu;by_cases n1:bl= -1
                  ·subst n1;have dH:=aa (aG.j _ 0 (by rw[qc.j,if_neg Zd]));clear aG qc bq;go_upto_region 55 with fail
                   go_quiet (fail);go_upto_region 57 with fail
                   obtain⟨ji,BL⟩:=Ze (w9.drewN nq);have eX:Hid (aA (λk=>k<w.heap.size) w kb mb sb pb qb bb [(xb,.cells #[Zi (li:Int),Zi x2,Zu x3] 112 (0,0))] K ji):=by rw[BL];exact H9.j.quiet ((ae.refl _ w9).drewN nq)
                   rw[<-BL];clear BL H9 r0 r1 r2 gn kk;obtain⟨xz,ke⟩:=eX.j.drew.Df AA ⟨x2,x3,false,false⟩;have jg:=aa ke;obtain⟨FJ,BK⟩:=Ze (ji.drew.setCells kb (6+li*4) (eE ⟨x2,x3,false,false⟩));rw[<-BK] at xz;have xz:=aa xz;clear ke;have af:=aa (uh.j _ _ eX.j.drew);have ak:=aa (uh.j _ _ xz.j);refine qg (S:=(λwv=>Zc wv xb 0 (Zi (li:Int))/\Zc wv xb 1 (Zi x2)/\Zc wv xb 2 (Zu x3))) Zx ?_;simp only[List.size_toArray,List.length_cons,List.length_nil,Nat.zero_add,Nat.reduceAdd];refine Zt 0 af.j ?_;refine Zt 1 af.j ?_;refine Zt 2 af.j ?_;refine Zt 3 af.j ?_;refine Zt 4 af.j ?_;refine Zt 5 af.j ?_;refine Zt 6 af.j ?_;refine Zt 7 af.j ?_;refine Zt 8 af.j ?_;refine Zt 9 af.j ?_;refine Zt 10 af.j ?_;refine Zy 11 (λK hK=>?_);refine Xi (.tmp 264) (.tmp 261) rfl rfl (l:=⟨x2,x3,false,false⟩) (kb:=kb) (off:=6+li*4) (by simp[Act.eval]) (by simp[Act.eval,eE]) jg.j ?_;rw[<-BK];clear BK;refine Zb hK ak.j ?_;clear hK K;refine wpAnyH_done Zx ?_ _;have dg:Hid (nT cF S.iq Q6 w kb mb sb pb qb bb {K with L:=K.L.set li ⟨x2,x3,false,false⟩} (j+1) FJ):=⟨by first|exact dH.j.2.1 rfl|exact dH.j.2.1 trivial|exact dH.j.2.1,dH.j.1,xz.j.tail⟩
                   clear dH;go_wp2_with fail;go_roundw
                   case rel=>exact⟨j+1,_,by go_num,Zo,dg⟩
                   case measure=>exact Zm
                  ·have n2:bl>=0:=Zo;have n3:0<=bl:=Zo;have iI:Hid (∀nq,R (.returned (.tuple #[.pointer none,Zi 7,Zi (j:Int)])) (w9.drewN nq)):=λnq=>sa.j _ _ _ _ ((aG.j K 7 (by rw[qc.j,if_pos n1])).2.2 Zd) Zd (H9.j.quiet ((ae.refl _ w9).drewN nq)).o
                   clear aG qc bq n1;go_upto_region 55 with fail
                   go_quiet (fail);go_wp2_with fail
                   all_goals
                    first|(go_ret3;exact iI.j _)|exact iI.j _
                ·obtain rfl:j=S.iq.length:=Zo;have h1:¬((S.iq.length:Nat):Int)<((S.iq.length:Nat):Int):=Zo;have mE:=HI.j.q.fin (Nat.le_refl _)
                 have HQ7:Hid (jt S=(K,0,0)):=by
                  show jt S=_;rw[zu.j,mE]
                 have mR:=aa (⟨HI.j.wf,HI.j.i.fin⟩:_/\_);clear mE HI zu ah q0 q1 q2 q3 q4 q5 q6 q7 M5;obtain⟨vT,G5⟩:=mR.j.2.1;have HT:=aa G5.t;have xr:Hid (K.T.length<=256):=mR.j.1.nt;obtain⟨pT,cT,BM,_,_,Ro⟩:=G5.t.form;have lC:=aa Ro;obtain⟨N,hN⟩:=Ze (K.T.length);have HN:=aa hN;rw[<-hN] at BM;subst BM;have Fc:Hid (aI (λk=>k<w.heap.size) wr kb mb sb pb qb bb (.slice pT N cT) {K with ss:=kU K.ss ((K.T.map (·.num)).take 0)}/\ae (λk=>¬k<w.heap.size) w wr):=⟨G5,mR.j.2.2⟩
                 have yK:N<=256:=by have:=xr.j;omega
                 clear G5 Ro hN HT;go_wp2_with fail
                 go_loopw [18] (λd wr=>∃j:Nat,d=Zi (j:Int)/\j<=N/\Hid (aI (λk=>k<w.heap.size) wr kb mb sb pb qb bb (.slice pT N cT) {K with ss:=kU K.ss ((K.T.map (·.num)).take j)}/\ae (λk=>¬k<w.heap.size) w wr)) (λd _=>N - (RowKit.intOf d).toNat)
                 case atStart=>exact⟨0,rfl,Zo,Fc⟩
                 case round=>
                  clear Fc;obtain⟨j,rfl,hj,HL⟩:=hrel;have k5:=HL.j.1.c5;by_cases ah:j<N
                  ·have bg:j<K.T.length:=by have:=HN.j;omega
                   have h1:(j:Int)<(N:Int):=Zo;have bf:0<=(j:Int)/\(j:Int)<(N:Int):=Zo;have jT:=Zf j Zo;obtain⟨g,rfl,_⟩:=lC.j (by have:=HN.j;omega);have CC:Hid (∀ss wv,aI (λk=>k<w.heap.size) wv kb mb sb pb qb bb (Zs g N cT) {K with ss:=ss}->Zc wv kb 3 (Zp qb)/\Zc wv kb 5 (Zs g N cT)/\wv.cell? ⟨g,j*38,none⟩=some (Zi K.T[j].num)):=λss wv h=>⟨h.c3,h.c5,FO h.t bg⟩
                   have mB:(kU K.ss ((K.T.map (·.num)).take j)).length<1000000:=by
                    exact Nat.lt_of_le_of_lt (mR.j.1.rest ((K.T.map (·.num)).take j) (λm hm=>List.mem_of_mem_take hm) K.ss mR.j.1).ns Zd
                   have IN:=aa ((HL.j.1.quiet ((ae.refl _ wr).drew)).xK mB K.T[j].num 0 0)
                   have aG:Hid (kU K.ss ((K.T.map (·.num)).take (j+1))=bU (kU K.ss ((K.T.map (·.num)).take j)) K.T[j].num 0 0):=by
                    show _=_;rw[List.take_succ_eq_append_getElem (show j<(K.T.map (·.num)).length by rw[List.length_map];exact bg),Js,List.getElem_map]
                   have af:=aa (CC.j _ _ (HL.j.1.quiet ((ae.refl _ wr).drew)));have ak:=af;obtain⟨ex,hex⟩:=Ze (fj (kU K.ss ((K.T.map (·.num)).take j)) K.T[j].num 0 0)
                   replace IN:Hid (Zk 19 #[Zp qb,Zi K.T[j].num,Zi 0,Zi 0] wr.drew λe w'=>Zr e (Zi ex)/\Hid (aI (λk=>k<w.heap.size) w' kb mb sb pb qb bb (Zs g N cT) {K with ss:=kU K.ss ((K.T.map (·.num)).take (j+1))}/\ae (λk=>¬k<w.heap.size) w w')):=by
                    rw[aG.j,hex];refine IN.j.m ?_;rintro e w' ⟨h7,h8,h9⟩;exact⟨h7,h8,HL.j.2.trans (((ae.refl _ wr).drew).trans h9)⟩
                   generalize K.T[j].num=tn at CC IN af ak;clear aG hex mB bg ah;go_upto_region 61 with fail
                   clear k5;go_region_held3 (λwv=>Zc wv kb 3 (Zp qb)/\Zc wv kb 5 (Zs g N cT)/\wv.cell? ⟨g,j*38,none⟩=some (Zi tn)) (with_reducible (first|exact af.j|exact ak.j)) (first|(go_at_call 19;refine IN.j.m ?_;rintro e ji ⟨rfl,eX⟩;have ak:=aa (CC.j _ _ eX.j.1)));go_wp2_with fail;go_roundw
                   case rel=>exact⟨j+1,by go_num,Zo,eX⟩
                   case measure=>exact Zm
                  ·obtain rfl:j=N:=Zo;have h1:¬(j:Int)<(j:Int):=Zo
                   have HE:Hid (R (.returned (.tuple #[Zp kb,Zi 0,Zi 0])) wr):=by
                    refine eO.j wr K kb mb sb pb qb bb HQ7.j HKL.j ⟨.slice pT j cT,?_⟩ HL.j.2;have h9:=HL.j.1;have e9:(K.T.map (·.num)).take j=K.T.map (·.num):=List.take_of_length_le (by rw[List.length_map];exact Nat.le_of_eq HN.j.symm);rw[e9] at h9;unfold yP;exact h9
                   clear ah;go_wp2_with fail
                   all_goals
                    first|(go_ret3;exact HE.j)|exact HE.j
end
end Go.Proofs.YtphkconoooeidaaGreatDoor

import Derived.Test.YtphkconoooeidaaGreatDoorCp30
import Derived.Test.YtphkconoooeidaaGreatDoorCards
import Derived.Test.YtphkconoooeidaaGreatDoorTie
import Derived.ChangeMaps5
import Derived.Deep.SlicePairs
import Derived.Deep.Slices
import Derived.Deep.Strs
import Derived.HandedShaped
import Derived.JoinedOf
import Derived.LaidMore
import Derived.SevenTiedAt
import Derived.SizedLaws
import Derived.Stop.Joined
set_option maxRecDepth 100000
set_option maxHeartbeats 8000000
set_option linter.unusedVariables false
set_option linter.unusedSimpArgs false
open Go Go.Vx Go.Proofs.Tryz Go.ChangeShapes Go.WideShapes Go.ChangeAt Go.RowKit
namespace Go.Proofs.YtphkconoooeidaaGreatDoor
section
variable {kb mb sb pb qb bb tb:Nat} {U V S:Nat->Prop} {w wv w1 w2:World} {K K2:Kn} {F:List (Nat×Obj)}
theorem adn {Q:Ending->World->Prop} (hk:w.cell? ⟨kb,1,none⟩=some (Zp sb)) (hc:Zk 72 #[Zp sb] w Q) (hs:∀e w',Q e w'->∃v,Zr e v):Zk 23 #[Zp kb] w Q:=by
 have HC:=aa hc;have HS:=aa hs;clear hc hs;go_enter func23,ntmps23;go_wp2_with fail;refine HC.j.m ?_;intro e w2 hq;obtain⟨v,rfl⟩:=HS.j _ _ hq;have HQ:=aa hq;clear hq HC HS hk;go_wp2_with fail
 all_goals
  first|(go_ret;exact HQ.j)|exact HQ.j
theorem adi {Q:Ending->World->Prop} (hk:w.cell? ⟨kb,2,none⟩=some (Zp pb)) (hc:Zk 73 #[Zp pb] w Q) (hs:∀e w',Q e w'->∃v,Zr e v):Zk 25 #[Zp kb] w Q:=by
 have HC:=aa hc;have HS:=aa hs;clear hc hs;go_enter func25,ntmps25;go_wp2_with fail;refine HC.j.m ?_;intro e w2 hq;obtain⟨v,rfl⟩:=HS.j _ _ hq;have HQ:=aa hq;clear hq HC HS hk;go_wp2_with fail
 all_goals
  first|(go_ret;exact HQ.j)|exact HQ.j
theorem adh (x y:Int) {Q:Ending->World->Prop} (hk:w.cell? ⟨kb,0,none⟩=some (Zp mb)) (hc:Zk 74 #[Zp mb,Zi x,Zi y] w Q) (hs:∀e w',Q e w'->∃v u,Zr e (.tuple #[v,u])):Zk 31 #[Zp kb,Zi x,Zi y] w Q:=by
 have HC:=aa hc;have HS:=aa hs;clear hc hs;go_enter func31,ntmps31;go_wp2_with fail;refine HC.j.m ?_;intro e w2 hq;obtain⟨v,u,rfl⟩:=HS.j _ _ hq;have HQ:=aa hq;clear hq HC HS hk;go_wp2_with fail
 all_goals
  first|(go_ret2;exact HQ.j)|exact HQ.j
theorem adl (x:Int) {Q:Ending->World->Prop} (hk:w.cell? ⟨kb,4,none⟩=some (Zp bb)) (hc:Zk 151 #[Zp bb,Zi x] w Q) (hs:∀e w',Q e w'->∃v u,Zr e (.tuple #[v,u])):Zk 90 #[Zp kb,Zi x] w Q:=by
 have HC:=aa hc;have HS:=aa hs;clear hc hs;go_enter func90,ntmps90;go_wp2_with fail;refine HC.j.m ?_;intro e w2 hq;obtain⟨v,u,rfl⟩:=HS.j _ _ hq;have HQ:=aa hq;clear hq HC HS hk;go_wp2_with fail
 all_goals
  first|(go_ret2;exact HQ.j)|exact HQ.j
theorem ad9 (x:Int) {Q:Ending->World->Prop} (hk:w.cell? ⟨kb,4,none⟩=some (Zp bb)) (hc:Zk 153 #[Zp bb,Zi x] w Q) (hs:∀e w',Q e w'->∃v u,Zr e (.tuple #[v,u])):Zk 92 #[Zp kb,Zi x] w Q:=by
 have HC:=aa hc;have HS:=aa hs;clear hc hs;go_enter func92,ntmps92;go_wp2_with fail;refine HC.j.m ?_;intro e w2 hq;obtain⟨v,u,rfl⟩:=HS.j _ _ hq;have HQ:=aa hq;clear hq HC HS hk;go_wp2_with fail
 all_goals
  first|(go_ret2;exact HQ.j)|exact HQ.j
theorem adj (x:Int) {Q:Ending->World->Prop} (hk:w.cell? ⟨kb,2,none⟩=some (Zp pb)) (hc:Zk 144 #[Zp pb,Zi x] w Q) (hs:∀e w',Q e w'->∃v u,Zr e (.tuple #[v,u])):Zk 82 #[Zp kb,Zi x] w Q:=by
 have HC:=aa hc;have HS:=aa hs;clear hc hs;go_enter func82,ntmps82;go_wp2_with fail;refine HC.j.m ?_;intro e w2 hq;obtain⟨v,u,rfl⟩:=HS.j _ _ hq;have HQ:=aa hq;clear hq HC HS hk;go_wp2_with fail
 all_goals
  first|(go_ret2;exact HQ.j)|exact HQ.j
theorem adg (x y:Int) {Q:Ending->World->Prop} (hk:w.cell? ⟨kb,3,none⟩=some (Zp qb)) (hc:Zk 143 #[Zp qb,Zi x,Zi y] w Q) (hs:∀e w',Q e w'->∃v u,Zr e (.tuple #[v,u])):Zk 78 #[Zp kb,Zi x,Zi y] w Q:=by
 have HC:=aa hc;have HS:=aa hs;clear hc hs;go_enter func78,ntmps78;go_wp2_with fail;refine HC.j.m ?_;intro e w2 hq;obtain⟨v,u,rfl⟩:=HS.j _ _ hq;have HQ:=aa hq;clear hq HC HS hk;go_wp2_with fail
 all_goals
  first|(go_ret2;exact HQ.j)|exact HQ.j
theorem adb {Q:Ending->World->Prop} (hk:w.cell? ⟨kb,3,none⟩=some (Zp qb)) (hc:Zk 75 #[Zp qb] w Q) (hs:∀e w',Q e w'->∃v u,Zr e (.tuple #[v,u])):Zk 32 #[Zp kb] w Q:=by
 have HC:=aa hc;have HS:=aa hs;clear hc hs;go_enter func32,ntmps32;go_wp2_with fail;refine HC.j.m ?_;intro e w2 hq;obtain⟨v,u,rfl⟩:=HS.j _ _ hq;have HQ:=aa hq;clear hq HC HS hk;go_wp2_with fail
 all_goals
  first|(go_ret2;exact HQ.j)|exact HQ.j
theorem adk (x:Int) {Q:Ending->World->Prop} (hk:w.cell? ⟨kb,0,none⟩=some (Zp mb)) (hc:Zk 146 #[Zp mb,Zi x] w Q) (hs:∀e w',Q e w'->∃v u,Zr e (.tuple #[v,u])):Zk 84 #[Zp kb,Zi x] w Q:=by
 have HC:=aa hc;have HS:=aa hs;clear hc hs;go_enter func84,ntmps84;go_wp2_with fail;refine HC.j.m ?_;intro e w2 hq;obtain⟨v,u,rfl⟩:=HS.j _ _ hq;have HQ:=aa hq;clear hq HC HS hk;go_wp2_with fail
 all_goals
  first|(go_ret2;exact HQ.j)|exact HQ.j
theorem adf (x:Int) {Q:Ending->World->Prop} (hk:w.cell? ⟨kb,1,none⟩=some (Zp sb)) (hc:Zk 149 #[Zp sb,Zi x] w Q) (hs:∀e w',Q e w'->∃v u,Zr e (.tuple #[v,u])):Zk 88 #[Zp kb,Zi x] w Q:=by
 have HC:=aa hc;have HS:=aa hs;clear hc hs;go_enter func88,ntmps88;go_wp2_with fail;refine HC.j.m ?_;intro e w2 hq;obtain⟨v,u,rfl⟩:=HS.j _ _ hq;have HQ:=aa hq;clear hq HC HS hk;go_wp2_with fail
 all_goals
  first|(go_ret2;exact HQ.j)|exact HQ.j
theorem NJ {mb sb pb qb bb tb:Nat} {L:List Ln} {c i:Nat} (hL:L.length=8) (hi:i<8) {j:Nat} (hj:j<2):(lG mb sb pb qb bb tb L (List.replicate 8 []) (List.replicate 8 []) c)[38+i*2+j]?=some (fG []):=by
 unfold lG;rw[List.getElem?_append_right (by simp;omega)]
 have hl:(L.flatMap eE).length=32:=by
  have:∀L:List Ln,(L.flatMap eE).length=L.length*4:=λL=>by
   induction L with
   |nil=>rfl
   |cons a r ih=>rw[List.flatMap_cons,List.length_append,ih];show 4+_=_;simp;omega
  rw[this,hL]
 rw[List.getElem?_append_right (by rw[hl];simp;omega)];rw[hl,show 38+i*2+j - [Value.pointer (some ⟨mb,0,none⟩),Zp sb,Zp pb,Zp qb,Zp bb,.map (some tb)].length - 32=i*2+j from by simp;omega];have hi8:i=0\/i=1\/i=2\/i=3\/i=4\/i=5\/i=6\/i=7:=Zo;have fi:j=0\/j=1:=Zo;rcases hi8 with rfl|rfl|rfl|rfl|rfl|rfl|rfl|rfl<;>rcases fi with rfl|rfl<;>rfl
theorem adm (h:ax U w kb mb sb pb qb bb tb K) (hl:K.L.length=8) {i:Nat} (hi:i<8):Zk 76 #[Zp kb,Zi (i:Int)] w λe w'=>Zr e (.tuple #[Zi (K.L.getD i .df).dj,Zu (K.L.getD i .df).jW,.bool (K.L.getD i .df).pL,.bool (K.L.getD i .df).pd,Zi 0])/\Zq w w':=by
 have bM:i<K.L.length:=Zo;have fu:K.L.getD i .df=K.L[i]:=by simp[List.getD,bM]
 rw[fu];have hk:=h.k;have e0:=cell_of_row _ _ (6+i*4+0) _ _ (0,0) hk;rw[List.getElem?_toArray,xD bM (j:=0) Zd] at e0;have e1:=cell_of_row _ _ (6+i*4+1) _ _ (0,0) hk;rw[List.getElem?_toArray,xD bM (j:=1) Zd] at e1;have e2:=cell_of_row _ _ (6+i*4+2) _ _ (0,0) hk;rw[List.getElem?_toArray,xD bM (j:=2) Zd] at e2;have e3:=cell_of_row _ _ (6+i*4+3) _ _ (0,0) hk;rw[List.getElem?_toArray,xD bM (j:=3) Zd] at e3;simp only[Nat.add_zero] at e0;replace e0:w.cell? ⟨kb,6+i*4,none⟩=some (Zi K.L[i].dj):=e0;replace e1:Zc w kb (6+i*4+1) (Zu K.L[i].jW):=e1;replace e2:Zc w kb (6+i*4+2) (.bool K.L[i].pL):=e2;replace e3:Zc w kb (6+i*4+3) (.bool K.L[i].pd):=e3;generalize K.L[i].dj=b0 at*;generalize K.L[i].jW=b1 at*;generalize K.L[i].pL=b2 at*;generalize K.L[i].pd=b3 at*;have r8:=aa (λw=>Kb (i:Int) w);rw[decide_eq_true (show 0<=(i:Int)/\(i:Int)<8 from Zo)] at r8;have bf:0<=(i:Int)/\(i:Int)<8:=Zo;have HO:Hid (∀o n,Zq w ((w.alloc o).drewN n)):=λo n=>((ae.refl _ w).alloc o).drewN n
 clear h hl hi bM fu hk;go_enter func76,ntmps76;go_wp2_with fail;refine(r8.j _).e1 ?_;go_wp2_with fail;go_quiet (fail);go_wp2_with fail
 all_goals
  (try simp only[Exit.inBlock,Exit.then])
  refine bodyPost_ret (v:=.tuple #[Zi b0,Zu b1,.bool b2,.bool b3,Zi 0]) (by simp[results,results76,go_sem]) rfl ⟨rfl,HO.j _ _⟩
theorem ada (h:ax U w kb mb sb pb qb bb tb K) (hl:K.L.length=8) (iR:K.ci=List.replicate 8 []) (Hd:K.co=List.replicate 8 []) {i:Nat} (hi:i<8):Zk 77 #[Zp kb,Zi (i:Int)] w λe w'=>Zr e (.tuple #[fG [],fG [],Zi 0])/\Zq w w':=by
 have hk:=h.k;rw[iR,Hd] at hk;have e0:=cell_of_row _ _ (38+i*2+0) _ _ (0,0) hk;rw[List.getElem?_toArray,NJ hl hi (j:=0) Zd] at e0;have e1:=cell_of_row _ _ (38+i*2+1) _ _ (0,0) hk;rw[List.getElem?_toArray,NJ hl hi (j:=1) Zd] at e1;simp only[Nat.add_zero] at e0;replace e0:w.cell? ⟨kb,38+i*2,none⟩=some (.string ⟨#[]⟩):=e0;replace e1:Zc w kb (38+i*2+1) (.string ⟨#[]⟩):=e1;have r8:=aa (λw=>Qm (i:Int) w);rw[decide_eq_true (show 0<=(i:Int)/\(i:Int)<8 from Zo)] at r8;have bf:0<=(i:Int)/\(i:Int)<8:=Zo;have HO:Hid (∀o n,Zq w ((w.alloc o).drewN n)):=λo n=>((ae.refl _ w).alloc o).drewN n
 clear h hl hi hk iR Hd;go_enter func77,ntmps77;go_wp2_with fail;refine(r8.j _).e1 ?_;go_wp2_with fail;go_quiet (fail);go_wp2_with fail
 all_goals
  go_ret3;exact⟨rfl,HO.j _ _⟩
end
section
variable {kb mb sb pb qb bb tb:Nat} {U V S:Nat->Prop} {w wv w1 w2:World} {K K2:Kn} {F:List (Nat×Obj)}
variable {D:DataW Value} {ks:List Int} {G:Int->Nat}
structure Tl where
 num:Int
 st:Int
 bT:Int
 prio:Int
 at':Int
 nK:Int
 mT:Int
 left:Int
 rg:Nat->Int
 pc:Int
def Tl.df:Tl:=⟨0,0,0,0,0,0,0,0,λ_=>0,0⟩
def ba (x:Tl):List Value:=[Zi x.num,Zi x.st,Zi x.bT,Zi x.prio,Zi x.at',Zi x.nK,Zi x.mT,Zi x.left]++(jQ .u32 x.rg++[Zu x.pc])
def eu:Lay Tl:=⟨ba,41,λt=>by simp[ba,rh],λt u hu=>by
 rcases List.mem_append.1 hu with hu|hu
 ·simp only[List.mem_cons,List.not_mem_nil,or_false] at hu;rcases hu with rfl|rfl|rfl|rfl|rfl|rfl|rfl|rfl<;>rfl
 ·rcases List.mem_append.1 hu with hu|hu
  ·exact FY _ _ u hu
  ·rw[List.mem_singleton] at hu;rw[hu];rfl,Zd⟩
def iv (K:Kn) (t:Kt):Tl:=⟨t.num,t.st,(eU K.ss t.num).1,(eU K.ss t.num).2.1,nV K.b t.num,t.nK,t.mT,(eU K.ss t.num).2.2.1,t.rg,t.pc⟩
def sE (rg:Nat->Int) (pc:Int):List Value:=jQ .u32 rg++[Zu pc]
theorem Tn (rg:Nat->Int) (pc:Int):(sE rg pc).length=33:=by simp[sE,rh]
def se:List Value:=ba ⟨0,0,0,0,0,0,0,0,λ_=>0,0⟩
theorem GD:(prog.info? 203).map (·.size)=some 41:=by kernel_rfl
theorem X9 (a b c d e f g h:Int) (rg:Nat->Int) (pc:Int) (w:World):(Instr.build 203 #[(0,Zi a),(1,Zi b),(2,Zi c),(3,Zi d),(4,Zi e),(5,Zi f),(6,Zi g),(7,Zi h),(8,.agg (sE rg pc).toArray)]).run prog w=.ok (.agg (ba ⟨a,b,c,d,e,f,g,h,rg,pc⟩).toArray) w:=by kernel_rfl
theorem afH {o:Oper} {act:Act} (x0 x1 x2 x3 x4 x5 x6 x7 x8:Operand) (ho:o.op=.build 203 #[(0,x0),(1,x1),(2,x2),(3,x3),(4,x4),(5,x5),(6,x6),(7,x7),(8,x8)]) {a b c d e f g h pc:Int} {rg:Nat->Int} (h0:act.eval x0=Zi a) (h1:act.eval x1=Zi b) (h2:act.eval x2=Zi c) (h3:act.eval x3=Zi d) (h4:act.eval x4=Zi e) (h5:act.eval x5=Zi f) (h6:act.eval x6=Zi g) (h7:act.eval x7=Zi h) (h8:act.eval x8=.agg (sE rg pc).toArray):(execOp act.eval o).run prog w=.ok (.value (.agg (ba ⟨a,b,c,d,e,f,g,h,rg,pc⟩).toArray)) w:=by
 have aM:=X9 a b c d e f g h rg pc w;generalize (ba ⟨a,b,c,d,e,f,g,h,rg,pc⟩).toArray=z at aM;generalize (sE rg pc).toArray=y at aM h8;simp only[execOp,ho];simp[h0,h1,h2,h3,h4,h5,h6,h7,h8,aM,Result.andThen]
theorem ach {o:Oper} {act:Act} (x:Operand) (ho:o.op=.load 108 x) {g off:Nat} {rg:Nat->Int} {pc:Int} (hx:act.eval x=.pointer (some ⟨g,off,none⟩)) (h:w.rangeAt g off (sE rg pc)):(execOp act.eval o).run prog w=.ok (.value (.agg (sE rg pc).toArray)) w:=by
 have aM:=run_loadAt_mid (P:=prog) w g off 108 (sE rg pc) _ h underlying108 rfl (by rw[QB];exact congrArg some (Tn rg pc).symm);generalize (sE rg pc).toArray=c at aM;simp only[execOp,ho,hx];simp[aM,Result.andThen]
theorem Xh {o:Oper} {act:Act} {K:Act->World->Prop} {Q:Exit->Act->World->Prop} (x y:Operand) (ho:o.op=.store 203 x y) (hd:o.dst=none) {l:Tl} {b:Nat} (hx:act.eval x=Zp b) (hy:act.eval y=.agg (ba l).toArray) (h0:w.heap[b]?=some (.cells se.toArray 203 (0,0))) (h:K act (w.setCells b 0 (ba l))):Oper.wp prog o act w K Q:=by
 have ht:w.there b 0 (ba l).toArray.size:=λj hj=>by
  refine⟨?_,jA h0 _⟩;have fi:j<se.length:=by have e1:=eu.len l;have e2:=eu.len ⟨0,0,0,0,0,0,0,0,λ_=>0,0⟩;simp only[List.size_toArray] at hj;change (ba l).length=_ at e1;change se.length=_ at e2;rw[e2];rw[e1] at hj;exact hj
  rw[Nat.zero_add,cell_of_row _ _ j _ _ (0,0) h0,List.getElem?_toArray,List.getElem?_eq_getElem fi];rfl
 refine wp_store_mid 203 x y ho b 0 _ hx hy ht (by rw[GD];exact congrArg some (eu.len l).symm) (all_oneCell_toArray (eu.one l)) ?_;rw[hd];exact h
theorem aaY (w:World):Zk 131 #[.pointer none] w λe w'=>Zr e (Zi (-1))/\w'=w:=by
 go_enter func131,ntmps131;go_wp2_with fail
 all_goals
  go_ret;exact⟨rfl,rfl⟩
structure fN (w:World) (kb mb sb pb qb bb tb:Nat) (D:DataW Value) (ks:List Int) (G:Int->Nat) (F:List (Nat×Obj)) (K:Kn) (wv:World):Prop where
 k:∃V:Nat->Prop,(∀p∈F,V p.1)/\ey V wv kb mb sb pb qb bb tb D ks G K
 f:∀p∈F,w.heap.size<=p.1/\wv.heap[p.1]?=some p.2
 o:Zq w wv
theorem fN.start (h:ey U w kb mb sb pb qb bb tb D ks G K):fN w kb mb sb pb qb bb tb D ks G [] K w:=⟨⟨U,λp hp=>(by cases hp),h⟩,λp hp=>(by cases hp),ae.refl _ _⟩
theorem fN.quiet (h:fN w kb mb sb pb qb bb tb D ks G F K wv) (ho:Zq wv w2):fN w kb mb sb pb qb bb tb D ks G F K w2:=by
 obtain⟨⟨V,h2,h3⟩,h4,h5⟩:=h;exact⟨⟨V,h2,h3.quiet ho⟩,λp hp=>⟨(h4 p hp).1,ae.keep ho (h4 p hp).2 (λh=>h)⟩,h5.trans ho⟩
theorem fN.drew (h:fN w kb mb sb pb qb bb tb D ks G F K wv):fN w kb mb sb pb qb bb tb D ks G F K wv.drew:=h.quiet ((ae.refl _ _).drew)
theorem fN.alloc (h:fN w kb mb sb pb qb bb tb D ks G F K wv) (o:Obj):fN w kb mb sb pb qb bb tb D ks G ((wv.heap.size,o)::F) K (wv.alloc o):=by
 obtain⟨⟨V,h2,h3⟩,h4,h5⟩:=h;have ho:Zq wv (wv.alloc o):=(ae.refl _ wv).alloc o;refine⟨⟨_,λp hp=>?_,h3.wide ho⟩,λp hp=>?_,h5.trans ho⟩
 ·rcases List.mem_cons.1 hp with rfl|hp
  ·exact Or.inr ⟨Nat.le_refl _,by simp⟩
  ·exact Or.inl (h2 p hp)
 ·rcases List.mem_cons.1 hp with rfl|hp
  ·exact⟨h5.size,heap_alloc_last wv o⟩
  ·exact⟨(h4 p hp).1,ae.keep ho (h4 p hp).2 (λh=>h)⟩
theorem fN.at (h:fN w kb mb sb pb qb bb tb D ks G F K wv) {b:Nat} {o:Obj} (hm:(b,o)∈F):wv.heap[b]?=some o:=(h.f _ hm).2
theorem fN.read (h:fN w kb mb sb pb qb bb tb D ks G F K wv) {f:FuncId} {args:Array Value} {v:Value} (hc:∀V,ey V wv kb mb sb pb qb bb tb D ks G K->Zk f args wv λe w'=>Zr e v/\Zq wv w'):
  Zk f args wv λe w'=>Zr e v/\Hid (fN w kb mb sb pb qb bb tb D ks G F K w'):=by
 have h0:=h;obtain⟨⟨V,h2,h3⟩,h4,h5⟩:=h;refine(hc V h3).m ?_;rintro e w' ⟨rfl,ho⟩;exact⟨rfl,h0.quiet ho⟩
theorem fN.c (h:fN w kb mb sb pb qb bb tb D ks G F K wv):wv.cell? ⟨kb,0,none⟩=some (Zp mb)/\wv.cell? ⟨kb,1,none⟩=some (Zp sb)/\wv.cell? ⟨kb,2,none⟩=some (Zp pb)/\wv.cell? ⟨kb,3,none⟩=some (Zp qb)/\wv.cell? ⟨kb,4,none⟩=some (Zp bb)/\wv.cell? ⟨kb,5,none⟩=some (.map (some tb)):=by
 obtain⟨⟨V,h2,h3⟩,h4,h5⟩:=h;exact⟨h3.x.c0,h3.x.c1,h3.x.c2,h3.x.c3,h3.x.c4,h3.x.c5⟩
theorem fN.fh {b:Nat} {o o2:Obj} (h:fN w kb mb sb pb qb bb tb D ks G ((b,o)::F) K wv) (ho:ae (λk=>k=b) wv w2) (hb:w2.heap[b]?=some o2) (hF:∀p∈F,p.1≠b):fN w kb mb sb pb qb bb tb D ks G ((b,o2)::F) K w2:=by
 obtain⟨⟨V,h2,h3⟩,h4,h5⟩:=h;refine⟨⟨V,λq hq=>?_,ik.j (aD.bj _) h3 ho (λk _ hk=>by subst hk;exact h2 _ List.mem_cons_self)⟩,λq hq=>?_,h5.beyond ho (λk hk=>by subst hk;exact(h4 _ List.mem_cons_self).1)⟩
 ·rcases List.mem_cons.1 hq with rfl|hq
  ·exact h2 (b,o) List.mem_cons_self
  ·exact h2 q (List.mem_cons_of_mem _ hq)
 ·rcases List.mem_cons.1 hq with rfl|hq
  ·exact⟨(h4 (b,o) List.mem_cons_self).1,hb⟩
  ·exact⟨(h4 q (List.mem_cons_of_mem _ hq)).1,ae.keep ho (h4 q (List.mem_cons_of_mem _ hq)).2 (hF q hq)⟩
theorem fN.Ja {ub:Nat} (h:fN w kb mb sb pb qb bb tb D ks G ((ub,.cells se.toArray 203 (0,0))::F) K wv) (u:Tl) (hF:∀p∈F,p.1≠ub):fN w kb mb sb pb qb bb tb D ks G ((ub,.cells (ba u).toArray 203 (0,0))::F) K (wv.setCells ub 0 (ba u)):=by
 obtain⟨h1,h2⟩:=uD (ba u) [] se wv ((eu.len _).trans (eu.len u).symm) (h.at List.mem_cons_self);exact h.fh h2 h1 hF
theorem fN.th (h:fN w kb mb sb pb qb bb tb D ks G F K wv) {i:Nat} (hi:i<K.T.length):wv.heap[G K.T[i].num]?=some (.cells (oK G K.T[i]).toArray 261 (0,0)):=by
 obtain⟨⟨V,h2,h3⟩,h4,h5⟩:=h;exact h3.th hi
theorem look_ok (h:ey U w kb mb sb pb qb bb tb D ks G K) (hw:aE K) {i:Nat} (hi:i<K.T.length) (hn:aj K.T[i].num):Zk 69 #[Zp kb,.pointer (some ⟨G K.T[i].num,0,none⟩)] w λe w'=>Zr e (.agg (ba (iv K K.T[i])).toArray)/\Zq w w':=by
 have yo:=hw.tr _ (List.getElem_mem hi)
 have ar:Hid (∀F wv,fN w kb mb sb pb qb bb tb D ks G F K wv->wv.cell? ⟨kb,3,none⟩=some (Zp qb)/\wv.cell? ⟨kb,4,none⟩=some (Zp bb)/\wv.cell? ⟨G K.T[i].num,0,none⟩=some (Zi K.T[i].num)/\wv.cell? ⟨G K.T[i].num,1,none⟩=some (Zi K.T[i].st)/\wv.cell? ⟨G K.T[i].num,35,none⟩=some (.pointer none)/\wv.cell? ⟨G K.T[i].num,36,none⟩=some (.pointer none)/\wv.rangeAt (G K.T[i].num) 2 (sE K.T[i].rg K.T[i].pc)):=λF wv h=>by
  have ht:=h.th hi;refine⟨h.c.2.2.2.1,h.c.2.2.2.2.1,Zl ht,Zl ht,(cell_of_row _ _ 35 _ _ (0,0) ht).trans ?_,(cell_of_row _ _ 36 _ _ (0,0) ht).trans ?_,λq u hq=>?_⟩
  ·show some (uB G K.T[i].nK)=_;rw[yo.2.2.2.2.1];rfl
  ·show some (uB G K.T[i].mT)=_;rw[yo.2.2.2.2.2.1];rfl
  ·rw[cell_of_row _ _ (2+q) _ _ (0,0) ht,List.getElem?_toArray,I5,List.getElem?_append_right (by simp),List.getElem?_append_left ?_]
   ·rw[show 2+q - [Value.int .i64 K.T[i].num,Zi K.T[i].st].length=q from by simp];exact hq
   ·have:=(List.getElem?_eq_some_iff.1 hq).1;rw[Tn] at this;simp[rh];omega
 have rZ:Hid (∀F wv,fN w kb mb sb pb qb bb tb D ks G F K wv->Zk 129 #[Zp qb,Zi K.T[i].num] wv λe w'=>Zr e (.tuple #[Zi (eU K.ss K.T[i].num).1,Zi (eU K.ss K.T[i].num).2.1,Zi (eU K.ss K.T[i].num).2.2.1,Zi (eU K.ss K.T[i].num).2.2.2])/\Hid (fN w kb mb sb pb qb bb tb D ks G F K w')):=λF wv h=>h.read (λV h=>by
  obtain⟨U2,G2,_,_,zW,D2,vt,vq,Q,_,hy⟩:=h.x.sched
  exact VF hy _ hn)
 have mN:Hid (∀F wv,fN w kb mb sb pb qb bb tb D ks G F K wv->Zk 130 #[Zp bb,Zi K.T[i].num] wv λe w'=>Zr e (.tuple #[Zi (nV K.b K.T[i].num),Zi (qj K.b K.T[i].num)])/\Hid (fN w kb mb sb pb qb bb tb D ks G F K w')):=λF wv h=>h.read (λV h=>by
  obtain⟨U2,hb⟩:=h.x.tP
  exact Vj hb _ hn)
 have eM:Hid (iv K K.T[i]=⟨K.T[i].num,K.T[i].st,(eU K.ss K.T[i].num).1,(eU K.ss K.T[i].num).2.1,nV K.b K.T[i].num, -1, -1,(eU K.ss K.T[i].num).2.2.1,K.T[i].rg,K.T[i].pc⟩):=by unfold iv;rw[yo.2.2.2.2.1,yo.2.2.2.2.2.1];exact rfl
 obtain⟨u,hu⟩:=Ze (iv K K.T[i]);rw[<-hu] at eM|-;have H0:=aa (fN.start h);generalize K.T[i].num=n at*;generalize K.T[i].st=s at*;generalize K.T[i].rg=rg at*;generalize K.T[i].pc=pc at*;generalize (eU K.ss n).1=l1 at*;generalize (eU K.ss n).2.1=l2 at*;generalize (eU K.ss n).2.2.1=l3 at*;generalize (eU K.ss n).2.2.2=l4 at*;generalize nV K.b n=wa at*;generalize qj K.b n=wh at*;generalize G n=g at*;have Ut:=aa aaY;clear h hw hi hn yo hu;go_enter func69,ntmps69;go_upto_region 1 with fail
 obtain⟨rb,tB⟩:=Ze (w.heap.size);generalize ag:w.alloc _=w1;have H1:Hid (fN w kb mb sb pb qb bb tb D ks G [(rb,.cells se.toArray 203 (0,0))] K w1):=by rw[<-ag,tB];exact H0.j.alloc _
 rw[<-tB];clear ag tB H0;have eC:=aa (rZ.j _ _ H1.j.drew);have af:Hid (Zc w1.drew kb 3 (Zp qb)/\Zc w1.drew g 0 (Zi n)):=⟨(ar.j _ _ H1.j.drew).1,(ar.j _ _ H1.j.drew).2.2.1⟩
 have ak:=af;go_region_held3 (λwv=>Zc wv kb 3 (Zp qb)/\Zc wv g 0 (Zi n)) (with_reducible (first|exact af.j|exact ak.j)) (first|(go_at_call 129;refine eC.j.m ?_;rintro e w3 ⟨rfl,H3⟩;have ak:Hid (Zc w3 kb 3 (Zp qb)/\Zc w3 g 0 (Zi n)):=⟨(ar.j _ _ H3.j).1,(ar.j _ _ H3.j).2.2.1⟩));clear af ak eC H1 rZ;go_upto_region 2 with fail
 have eC:=aa (mN.j _ _ H3.j.drew);have af:Hid (Zc w3.drew kb 4 (Zp bb)/\Zc w3.drew g 0 (Zi n)):=⟨(ar.j _ _ H3.j.drew).2.1,(ar.j _ _ H3.j.drew).2.2.1⟩
 have ak:=af;go_region_held3 (λwv=>Zc wv kb 4 (Zp bb)/\Zc wv g 0 (Zi n)) (with_reducible (first|exact af.j|exact ak.j)) (first|(go_at_call 130;refine eC.j.m ?_;rintro e w4 ⟨rfl,H4⟩;have ak:Hid (Zc w4 kb 4 (Zp bb)/\Zc w4 g 0 (Zi n)):=⟨(ar.j _ _ H4.j).2.1,(ar.j _ _ H4.j).2.2.1⟩));clear af ak eC H3 mN;go_upto_region 3 with fail
 have qW:Hid (∀F wv,fN w kb mb sb pb qb bb tb D ks G F K wv->Zc wv g 0 (Zi n)/\Zc wv g 1 (Zi s)/\Zc wv g 35 (.pointer none)/\Zc wv g 36 (.pointer none)/\wv.rangeAt g 2 (sE rg pc)):=λF wv h=>(ar.j F wv h).2.2
 have af:=aa (qW.j _ _ H4.j.drew);have kD:Hid (fN w kb mb sb pb qb bb tb D ks G [(rb,.cells (ba u).toArray 203 (0,0))] K (w4.drew.setCells rb 0 (ba u))):=H4.j.drew.Ja u (λp hp=>by cases hp);have HZ:=aa (H4.j.drew.at List.mem_cons_self);obtain⟨w5,dN⟩:=Ze (w4.drew.setCells rb 0 (ba u));rw[<-dN] at kD;have Bc:=aa (qW.j _ _ kD.j);have HAU:Hid (ba ⟨n,s,l1,l2,wa, -1, -1,l3,rg,pc⟩=ba u):=by rw[eM.j];exact rfl
 refine qg (S:=(λwv=>wv.cell? ⟨g,0,none⟩=some (Zi n)/\wv.cell? ⟨g,1,none⟩=some (Zi s)/\wv.cell? ⟨g,35,none⟩=some (.pointer none)/\wv.cell? ⟨g,36,none⟩=some (.pointer none)/\wv.rangeAt g 2 (sE rg pc))) Zx ?_;simp only[List.size_toArray,List.length_cons,List.length_nil,Nat.zero_add,Nat.reduceAdd];refine Zt 0 af.j ?_;refine Zt 1 af.j ?_;refine Zt 2 af.j ?_;refine Zt 3 af.j ?_;refine Zt 4 af.j ?_;refine Zt 5 af.j ?_;refine Zt 6 af.j ?_;refine Zt 7 af.j ?_;refine Zt 8 af.j ?_;refine Zt 9 af.j ?_;refine Zt 10 af.j ?_;refine Zt 11 af.j ?_;refine Zt 12 af.j ?_;refine Zt 13 af.j ?_;refine Zt 14 af.j ?_;refine Zt 16 af.j ?_;refine Zt 17 af.j ?_;refine Zt 18 af.j ?_;refine Zt 19 af.j ?_;refine Zt 21 af.j ?_;refine Zt 22 af.j ?_;refine Zt 23 af.j ?_;refine Zt 24 af.j ?_;refine wpAnyH_take (i:=25) (v:=?v3_25_24) Zg Zx Zx Zx (by exact λ_ _ _ h=>h) (Or.inl ⟨by rfl,?hy3_25_24⟩) af.j ?_
 case hy3_25_24=>(intro wq nH;refine(ach (.tmp 61) rfl rfl nH.2.2.2.2).trans ?_;with_reducible rfl)
 try simp only[Act.put,List.setIfInBounds_toArray,List.set_cons_zero,List.set_cons_succ]
 refine Zy 15 (λK hK=>?_);refine jy rfl 131 #[Operand.tmp 51] #[201] rfl #[.pointer none] (by first|rfl|simp[Act.eval,go_sem]) (by simp[go_sem]) (Ut.j _) ?_;rintro e wq ⟨rfl,tq⟩;have tq:=tq.symm;subst tq;refine⟨_,rfl,?_⟩;refine Zb hK af.j ?_;refine Zy 20 (λK hK=>?_);refine jy rfl 131 #[Operand.tmp 56] #[201] rfl #[.pointer none] (by first|rfl|simp[Act.eval,go_sem]) (by simp[go_sem]) (Ut.j _) ?_;rintro e wq ⟨rfl,tq⟩;have tq:=tq.symm;subst tq;refine⟨_,rfl,?_⟩;refine Zb hK af.j ?_;refine wpAnyH_take (i:=26) (v:=?v3_26_25) Zg Zx Zx Zx (by exact λ_ _ _ h=>h) (Or.inl ⟨by rfl,?hy3_26_25⟩) af.j ?_
 case hy3_26_25=>(intro wq nH;refine(afH (.tmp 40) (.tmp 44) (.tmp 45) (.tmp 46) (.tmp 47) (.tmp 52) (.tmp 57) (.tmp 58) (.tmp 62) rfl rfl rfl rfl rfl rfl rfl rfl rfl rfl).trans ?_;with_reducible rfl)
 try simp only[Act.put,List.setIfInBounds_toArray,List.set_cons_zero,List.set_cons_succ]
 refine Zy 27 (λK hK=>?_);refine Xh (.tmp 4) (.tmp 63) rfl rfl (l:=u) (b:=rb) (by simp[Act.eval]) (by simp[Act.eval];exact HAU.j) HZ.j ?_;rw[<-dN];clear dN;refine Zb hK Bc.j ?_;refine wpAnyH_done Zx ?_ _;go_wp2_with fail
 all_goals
  (try simp only[Exit.inBlock,Exit.then])
  refine bodyPost_ret (v:=.agg (ba u).toArray) ?_ rfl ⟨rfl,kD.j.o⟩;have KY:=run_loadVar_row (P:=prog) w5 rb 203 203 (ba u).toArray (0,0) _ (kD.j.at List.mem_cons_self) underlying203 rfl (by rw[GD];exact congrArg some (eu.len u).symm);generalize (ba u).toArray=z at KY|-;simp[results,results69,KY];exact KY
end
section
variable {kb mb sb pb qb bb tb:Nat} {U V S:Nat->Prop} {w wv w1 w2:World} {K K2:Kn} {F:List (Nat×Obj)}
variable {D:DataW Value} {ks:List Int} {G:Int->Nat}
theorem I1:Kind prog eu 121 203:=kG (z:=.agg #[.int .i64 0,.int .i64 0,.int .i64 0,.int .i64 0,.int .i64 0,.int .i64 0,.int .i64 0,.int .i64 0,.int .u32 0,.int .u32 0,.int .u32 0,.int .u32 0,.int .u32 0,.int .u32 0,.int .u32 0,.int .u32 0,.int .u32 0,.int .u32 0,.int .u32 0,.int .u32 0,.int .u32 0,.int .u32 0,.int .u32 0,.int .u32 0,.int .u32 0,.int .u32 0,.int .u32 0,.int .u32 0,.int .u32 0,.int .u32 0,.int .u32 0,.int .u32 0,.int .u32 0,.int .u32 0,.int .u32 0,.int .u32 0,.int .u32 0,.int .u32 0,.int .u32 0,.int .u32 0,.int .u32 0]) (b:=200) underlying121 Zx rfl Zd
theorem X1 (a:Tl) (w:World):(Instr.buildSlice 121 1 #[(0,.agg (ba a).toArray)]).run prog w=.ok (Zs w.heap.size 1 1) (w.alloc (.cells (ba a).toArray 203)):=by kernel_rfl
theorem Jm {o:Oper} {act:Act} {K:Act->World->Prop} {Q:Exit->Act->World->Prop} (x:Operand) (d:Nat) (ho:o.op=.buildSlice 121 1 #[(0,x)]) (hd:o.dst=some d) {a:Tl} (hx:act.eval x=.agg (ba a).toArray) (h:K (act.put (some d) (Zs w.heap.size 1 1)) (w.alloc (.cells (ba a).toArray 203))):Oper.wp prog o act w K Q:=by
 have aM:=X1 a w;generalize (ba a).toArray=c at aM hx h;unfold Oper.wp;simp only[execOp,ho];simp[hx,aM,Result.andThen];rw[Oper.upon_value,hd];exact h
theorem acw (tb:Nat) (w:World):Zk 68 #[.map (some tb)] w λe w'=>Zr e (.func (.func 128) #[] #[Zp w.heap.size])/\w'=w.alloc (.cells #[.map (some tb)] 155):=
 (callsIn_wide (n:=5)).1 (AnyZI.keys_in keysT Fence.wide 5 trivial rfl (some tb) w)
theorem Xt {l:List Int} (h:l.Pairwise (·<·)):l.mergeSort (λx y=>decide (x<=y))=l:=List.mergeSort_of_pairwise (h.imp (λch=>by simp;omega))
theorem Xs (h:lB w tb D ks G) (hl:ks.length<=1000) {l:List Int} (lh:ks.Perm l) (hs:l.Pairwise (·<·)):Zk 67 #[.func (.func 128) #[] #[Zp w.heap.size]] (w.alloc (.cells #[.map (some tb)] 155)) λe w'=>∃v,Zr e v/\ai cO w' w.heap.size 3 v l/\Zq w w':=by
 obtain⟨KD,tA⟩:=JU h.own (λk hk hh=>(h.has k hk).1 hh) (λk hk=>(h.has k (h.ix k hk)).2 hk) h.nd;have gn:=h.own.lt
 have Ai:SeqGives Fence.wide 2 prog 128 #[Zp w.heap.size] encZ (λss=>ss.Perm (intKeys D)) (Maps.size D) (w.alloc (.cells #[.map (some tb)] 155)):=
  AnyZI.keys_gives (ρ:=keysT_ren) {keysT with} Fence.wide _ trivial rfl Zo w.heap.size tb ks.length D _ (by simp) (by simp) (h.own.alloc _)
 have cS:=AnyZI.sorted_in sortedA Fence.wide 5 trivial trivial trivial trivial rfl Zo (On _) (enters_of func127 Zx rfl) 128 #[Zp w.heap.size] trivial (enters_of func128 Zx rfl) _ _ (by rw[tA];unfold maxLen;omega) (by rw[tA];omega) _ Ai;change CallsIn _ _ prog 67 _ _ _ at cS;refine((callsIn_wide (n:=5)).1 cS).m ?_;rintro e w' ⟨v,ss,rfl,hp,dM,_,hb⟩;have e1:ss.mergeSort (λx y=>decide (x<=y))=l:=(mergeSort_of_perm_i ((hp.trans KD.symm).trans lh)).trans (Xt hs);have e2:ss.length=l.length:=by rw[<-e1,List.length_mergeSort]
 refine⟨v,rfl,?_,?_⟩
 ·have h1:w'.ownsRow (w.alloc (.cells #[.map (some tb)] 155)).heap.size 3 1 v l.length (fl cO l):=by
   rw[e1,e2] at dM;rw[S8];exact dM
  exact s9 (L:=cO) h1 (by simp)
 ·exact((ae.refl _ w).alloc _).trans (ae.PF hb (λk hk cw=>Zo))
structure xc (w:World) (nv:Value) (bZ:List Int) (v:Value) (ls:List Tl) (wr:World):Prop where
 on:Zq w wr
 nu:ai cO wr w.heap.size 3 nv bZ
 ow:ai eu wr w.heap.size 203 v ls
theorem xc.quiet {nv v:Value} {bZ:List Int} {ls:List Tl} {wr wx:World} (h:xc w nv bZ v ls wr) (ho:Zq wr wx):xc w nv bZ v ls wx:=
 ⟨h.on.trans ho,h.nu.kept ho (λ_ _ h=>h),h.ow.kept ho (λ_ _ h=>h)⟩
theorem xc.push {nv v v2:Value} {bZ:List Int} {ls ru:List Tl} {wr wx:World} (h:xc w nv bZ v ls wr) (ho:ai eu wx w.heap.size 203 v2 ru) (ay:ae (λk=>v.ownBlock=some k) wr wx):xc w nv bZ v2 ru wx:=
 ⟨h.on.beyond ay (λk hk=>(cH h.ow hk).1),h.nu.kept ay (λk hk e=>by
  obtain⟨c1,h1⟩:=bu h.nu hk;obtain⟨c2,h2⟩:=bu h.ow e
  exact cE h1 h2 Zd rfl),ho⟩
theorem ade (hx:ax U w kb mb sb pb qb bb tb K) (hw:aE K):Zk 20 #[Zp kb] w λe w'=>∃v,Zr e v/\ai eu w' w.heap.size 203 v (K.T.map (iv K))/\Zq w w':=by
 obtain⟨D,ks,G,h⟩:=hx.g;obtain⟨U5,h5⟩:=h.own;have dE:ks.length<=1000:=by rw[h5.kt.length_eq,List.length_map];exact h5.nt
 have Fb:=aa (acw tb w);have rS:=aa (Xs h5.m dE h5.kt hw.th);have c5:=h.x.c5;have HH:=aa h;have HW:=aa hw;have xr:=aa hw.nt;have HIX:Hid (∀t∈K.T,aj t.num):=λt ht=>h5.m.ix _ (h5.kt.mem_iff.2 (List.mem_map.2 ⟨t,ht,rfl⟩))
 clear hx h h5 dE hw;go_enter func20,ntmps20;go_wp2_with fail;refine Fb.j.m ?_;rintro e w1 ⟨rfl,rfl⟩;go_wp2_with fail;refine rS.j.m ?_;rintro e w2 ⟨nv,rfl,pQ,ay⟩;obtain⟨np,nc,tD,_,_,qE⟩:=pQ.form;obtain⟨M,hM⟩:=Ze (K.T.length);have HM:=aa hM;rw[List.length_map,<-hM] at tD;have D6:M<=256:=by have:=xr.j;omega
 have oE:Hid (xc w nv (K.T.map (·.num)) (.slice none 0 0) ((K.T.take 0).map (iv K)) w2):=⟨ay,pQ,ai.nil _ _ _ _⟩
 subst tD
 have Bg:Hid (0<M->∃g,np=some ⟨g,0,none⟩):=λh0=>by
  obtain⟨g,h1,_⟩:=qE (by rw[List.length_map];omega);exact⟨g,h1⟩
 clear pQ ay hM Fb rS c5 qE;go_wp2_with fail
 go_loopw [3,5,13] (λv _ d wr=>∃j:Nat,d=.int .i64 (j:Int)/\j<=M/\Hid (xc w (.slice np M nc) (K.T.map (·.num)) v ((K.T.take j).map (iv K)) wr)) (λ_ _ d _=>M - (RowKit.intOf d).toNat)
 case atStart=>exact⟨0,rfl,Zo,oE⟩
 case round=>
  clear oE;obtain⟨j,rfl,hj,HR⟩:=hrel;obtain⟨pv,cv,iA,_⟩:=HR.j.ow.form;obtain⟨m,hm⟩:=Ze (((K.T.take j).map (iv K)).length);rw[<-hm] at iA;subst iA;by_cases ah:j<M
  ·have bg:j<K.T.length:=by have:=HM.j;omega
   have h1:(j:Int)<(M:Int):=Zo;have bf:0<=(j:Int)/\(j:Int)<(M:Int):=Zo;have jT:=Zf j Zo;obtain⟨g,rfl⟩:=Bg.j Zo
   have oa:wr.cell? ⟨g,j,none⟩=some (.int .i64 K.T[j].num):=by
    have:=HR.j.nu.cell j 0 (by rw[List.length_map];exact bg) Zd;have e:j*cO.sz+0=j:=by show j*1+0=j;omega
    rw[e,List.getElem_map] at this;exact this
   have uS:=HIX.j _ (List.getElem_mem bg);have eK:=HH.j.quiet HR.j.on;have gh:=eK.look K.T[j].num uS
   have htf:∃i,kR K.T K.T[j].num=some i:=by
    cases hf:kR K.T K.T[j].num with
    |some i=>exact⟨i,rfl⟩
    |none=>have:=mu hf _ (List.getElem_mem bg);simp at this
   obtain⟨i0,Lf⟩:=htf;rw[Lf] at gh;dsimp only at gh;have c5:=eK.x.c5;have Uv:=aa (look_ok eK HW.j bg uS)
   have dG:Hid ((K.T.take (j+1)).map (iv K)=(K.T.take j).map (iv K)++[iv K K.T[j]]):=by
    show _=_;rw[List.take_succ_eq_append_getElem bg,List.map_append];rfl
   have jw:Hid (((K.T.take j).map (iv K)).length+1<=10000000):=by show _+1<=10000000;rw[List.length_map,List.length_take];omega
   generalize K.T[j].num=tn at*;generalize iv K K.T[j]=u at*;generalize G tn=tg at*;clear eK uS Lf ah hm bg;go_upto_region 5 with fail
   go_wp2_with fail;refine Uv.j.m ?_;rintro e w4 ⟨rfl,h4⟩;have dK:=aa (HR.j.quiet h4);have oG:Hid (w.heap.size<=w4.heap.size):=dK.j.on.size;clear h4 c5 gh oa HR Uv;go_wp2_with (first|(refine wpList_plain rfl (λ_ hK=>Jm (.tmp 25) 26 rfl rfl (a:=u) rfl (hK _ _ ?_)))|(at_builtin;refine mg I1 _ rfl _ _ rfl w.heap.size (.slice pv m cv) _ rfl dK.j.ow u _ _ rfl rfl rfl jw.j oG.j ?_;intro v' w5 bc aP bB;have aG:=aa (dK.j.push bc aP);clear bc aP bB));go_roundw
   case rel=>exact⟨j+1,by go_num,Zo,by rw[dG.j];exact aG⟩
   case measure=>exact Zm
  ·obtain rfl:j=M:=Zo;have h1:¬(j:Int)<(j:Int):=Zo
   have eO:Hid (xc w (.slice np j nc) (K.T.map (·.num)) (.slice pv m cv) (K.T.map (iv K)) wr):=by
    have h9:=HR.j;rw[List.take_of_length_le (Nat.le_of_eq HM.j.symm)] at h9;exact h9
   clear HR hm;go_wp2_with fail
   all_goals
    go_ret;exact⟨_,rfl,eO.j.ow,eO.j.on⟩
end
section
open Go.Deep
theorem own:ownKnob prog.godebug=none:=by kernel_rfl
theorem laidOut:laidOutB prog=true:=by kernel_rfl
theorem afk:prog.cellsOf 3=1:=by kernel_rfl
def numOf:Value->Int
 |.int _ n=>n
 |_=>0
def strOf:Value->List UInt8
 |.string s=>s.data.toList
 |_=>[]
end
section
open Go.Deep
section
variable {H:Type} {enc:TypeId×Value->H} {P:Program} {W:World} {base:Nat} {spare:Nat->Bool} {held:Bool} {t e:TypeId} {fuel:Nat} {cs:List Value} {x:DataW H×List MemPlace}
theorem nJ {fs:Array Field} (hu:P.underlying t=some (.struct fs)) (h:DataW.trod enc P W base spare held fuel t cs=some x) (i:Nat) {f:Field} (hf:fs[i]?=some f):
  ∃n y ps,DataW.trod enc P W base spare held n f.type ((cs.drop f.offset).take (P.cellsOf f.type))=some y/\x.1=.agg ps/\ps[i]?=some y.1:=by
 obtain⟨xs,n,_,rfl,_,hl,om⟩:=DataW.trod_struct hu h;have hi:i<xs.length:=by rw[hl];exact(Array.getElem?_eq_some_iff.1 hf).1
 have h1:=om i f hf;rw[List.getElem?_eq_getElem hi] at h1;exact⟨n,xs[i],xs.map (·.1),h1,rfl,by rw[List.getElem?_map,List.getElem?_eq_getElem hi];rfl⟩
theorem js {o n j:Nat} {v:Value} (h:((cs.drop o).take n)[j]?=some v):cs[o+j]?=some v:=by
 rw[List.getElem?_take] at h
 split at h
 ·rwa[List.getElem?_drop] at h
 ·cases h
theorem gB {fs:Array Field} (hu:P.underlying t=some (.struct fs)) (h:DataW.trod enc P W base spare held fuel t cs=some x) (i:Nat) {f:Field} (hf:fs[i]?=some f) {k:IntKind} (hk:P.underlying f.type=some (.int k)):
  ∃z,cs[f.offset]?=some (.int k z)/\(Lit.int k z).wf=true:=by
 obtain⟨n,y,ps,h1,_⟩:=nJ hu h i hf;obtain⟨z,h2,_,h3⟩:=DataW.trod_int hk h1;refine⟨z,?_,h3⟩;have:=js (cs:=cs) (o:=f.offset) (n:=P.cellsOf f.type) (j:=0) (v:=.int k z) (by rw[h2];rfl);simpa using this
theorem aeJ {fs:Array Field} (hu:P.underlying t=some (.struct fs)) (h:DataW.trod enc P W base spare held fuel t cs=some x) (i:Nat) {f:Field} (hf:fs[i]?=some f) (hk:P.underlying f.type=some .bool):
  ∃z,cs[f.offset]?=some (.bool z):=by
 obtain⟨n,y,ps,h1,_⟩:=nJ hu h i hf;obtain⟨z,h2,_⟩:=DataW.trod_bool hk h1;refine⟨z,?_⟩;have:=js (cs:=cs) (o:=f.offset) (n:=P.cellsOf f.type) (j:=0) (v:=.bool z) (by rw[h2];rfl);simpa using this
theorem IV {fs:Array Field} {d y:DataW H} {ps:List (DataW H)} (hu:P.underlying t=some (.struct fs)) (hd:d=.agg ps) {i:Nat} {f:Field} (hf:fs[i]?=some f) (hy:ps[i]?=some y) {n:Nat} (hn:n∈y.weights P f.type):n∈d.weights P t:=by
 subst hd;simp only[DataW.weights,hu];exact DataW.weights_mem_each (j:=i) (by rw[List.getElem?_map,Array.getElem?_toList,hf];rfl) hy n hn
theorem NR:∀{ds:List (DataW H)} {d:DataW H},d∈ds->∀n∈d.weights P e,n∈DataW.weightsAll P e ds
 |c::r,d,hd,n,hn=>by
  simp only[DataW.weightsAll,List.mem_append];rcases List.mem_cons.1 hd with rfl|hd
  ·exact Or.inl hn
  ·exact Or.inr (NR hd n hn)
theorem aeI {fs:Array Field} (hu:P.underlying t=some (.struct fs)) (h:DataW.trod enc P W base spare held fuel t cs=some x) (i:Nat) {f:Field} (hf:fs[i]?=some f) (hk:P.underlying f.type=some .string):
  ∃s:List UInt8,cs[f.offset]?=some (fG s)/\s.length∈x.1.weights P t:=by
 obtain⟨n,y,ps,h1,h2,h3⟩:=nJ hu h i hf;obtain⟨s,h4,h5,_⟩:=DataW.trod_string hk h1;refine⟨s.data.toList,?_,IV hu h2 hf h3 ?_⟩
 ·have:=js (cs:=cs) (o:=f.offset) (n:=P.cellsOf f.type) (j:=0) (v:=.string s) (by rw[h4];rfl);unfold fG;rw[show(⟨s.data.toList.toArray⟩:ByteArray)=s by simp only[Array.toArray_toList]];simpa using this
 ·rw[h5];simp[DataW.weights]
theorem yR {l:List Value} (hl:cs.length=l.length) (h:∀j,j<l.length->cs[j]?=l[j]?):cs=l:=by
 refine List.ext_getElem? (λj=>?_);by_cases hj:j<l.length
 ·exact h j hj
 ·rw[List.getElem?_eq_none Zo,List.getElem?_eq_none Zo]
theorem open_row {α:Type} [Inhabited α] (L:Lay α) (Ok:α->DataW H->Prop) (hu:P.underlying t=some (.slice e)) (hc:P.cellsOf e=L.sz)
  (my:∀(n:Nat) (c:List Value) (y:DataW H×List MemPlace),c.length=L.sz->DataW.trod enc P W 0 (λ_=>true) held n e c=some y->∃z:α,Ok z y.1/\c=L.cf z)
  (h:DataW.trod enc P W 0 (λ_=>true) held fuel t cs=some x):
  ∃v zs,cs=[v]/\il L W v zs/\(∀(i:Nat) (hi:i<zs.length),∃d,Ok zs[i] d/\∀n∈d.weights P e,n∈x.1.weights P t)/\(0<zs.length->∃m,zs.length<=m/\m*P.bytesOf e∈x.1.weights P t):=by
 rcases open_slice hu h with⟨rfl,rfl⟩|⟨a,len,cap,m,n,D,Pl,rfl,_,hl,hm,oV,GG,hx⟩
 ·exact⟨_,[],rfl,⟨none,0,rfl,⟨Nat.le_refl _,Zd⟩,λk hk=>absurd hk (Nat.not_lt_zero _)⟩,λi hi=>absurd hi (Nat.not_lt_zero _),λh=>absurd h (Nat.not_lt_zero _)⟩
 ·simp only[if_true] at oV;subst oV
  have each:∀i,i<m->∃z:α,Ok z (D i)/\∀j,j<L.sz->W.cell? ((a.add (i*L.sz)).add j)=(L.cf z)[j]?:=by
   intro i hi;obtain⟨cs',h1,h2⟩:=hx i hi;rw[hc] at h1;obtain⟨_,hlen,fM⟩:=World.cells?_some h1;obtain⟨z,hz,rfl⟩:=my _ _ _ hlen h2;exact⟨z,hz,fM⟩
  obtain⟨Z,hZ⟩:=choose_lt each;refine⟨_,(List.range len).map Z,rfl,⟨some a,m,by simp,⟨by simpa using hl,hm⟩,λk hk=>?_⟩,λi hi=>?_,λh0=>?_⟩
  ·have hk':k<len:=by simpa using hk
   obtain⟨ab,ao,sp⟩:=a;have hp:=L.pos;have h0:=(hZ 0 Zo).2 0 hp;rw[List.getElem?_eq_getElem (show 0<(L.cf (Z 0)).length by rw[L.len];exact hp)] at h0;have ae0:sp=none:=by simpa[Addr.add] using World.cell?_spot h0
   subst ae0;simp only[pY] at h0;refine⟨ab,ao,rfl,World.block_lt_of_cell? W _ h0,λj hj=>?_⟩;have hh:=(hZ k Zo).2 j hj;simp only[pY] at hh;simp only[List.getElem_map,List.getElem_range];exact hh
  ·have tJ:i<len:=by simpa using hi
   refine⟨D i,?_,λn hn=>?_⟩
   ·simp only[List.getElem_map,List.getElem_range];exact(hZ i Zo).1
   ·rw[GG];simp only[DataW.weights,hu,List.mem_cons,List.mem_append];exact Or.inr (Or.inl (NR (List.mem_map.2 ⟨i,List.mem_range.2 tJ,rfl⟩) n hn))
  ·refine⟨len+(m - len),by simp,?_⟩;rw[GG];simp only[DataW.weights,hu,List.mem_cons,List.length_map,List.length_range];exact Or.inl trivial
end
end
section
open Go.Deep
section
variable {H:Type} {enc:TypeId×Value->H} {W:World} {base:Nat} {spare:Nat->Bool} {held:Bool} {fuel n:Nat} {c cs:List Value} {x y:DataW H×List MemPlace}
theorem PO {z:Int} (h:(Lit.int .u32 z).wf=true):∃a:Nat,z=(a:Int)/\a<4294967296:=by
 obtain⟨l0,l1⟩:=bounds_u32 h;obtain⟨a,rfl⟩:=Int.eq_ofNat_of_zero_le l0;exact⟨a,rfl,Zo⟩
theorem aaE (hl:c.length=2) (h:DataW.trod enc prog W base spare held n 120 c=some y):∃z:Int×Int,True/\c=aJ.cf z:=by
 obtain⟨a,ea,wa⟩:=gB underlying120 h 0 rfl underlying3;obtain⟨b,eb,wb⟩:=gB underlying120 h 1 rfl underlying3;refine⟨(a,b),trivial,yR hl (λj hj=>?_)⟩;have hj:j<2:=hj;rcases(by omega:j=0\/j=1) with rfl|rfl
 ·exact ea
 ·exact eb
theorem aaG (hl:c.length=3) (h:DataW.trod enc prog W base spare held n 87 c=some y):∃z:Int×Int×Int,(aj z.1/\aj z.2.1/\aj z.2.2)/\c=oN.cf z:=by
 obtain⟨_,_,_,h0,_⟩:=nJ underlying87 h 0 rfl;obtain⟨a,ea,wa⟩:=gB underlying85 h0 0 rfl underlying3;obtain⟨b,eb,wb⟩:=gB underlying85 h0 1 rfl underlying3;obtain⟨d,ed,wd⟩:=gB underlying87 h 1 rfl underlying3;have ea:=js ea;have eb:=js eb;refine⟨(a,b,d),⟨bounds_i64 wa,bounds_i64 wb,bounds_i64 wd⟩,yR hl (λj hj=>?_)⟩;have hj:j<3:=hj;rcases(by omega:j=0\/j=1\/j=2) with rfl|rfl|rfl
 ·exact ea
 ·exact eb
 ·exact ed
theorem aaL (hl:c.length=2) (h:DataW.trod enc prog W base spare held n 89 c=some y):∃z:Int×List UInt8,(aj z.1/\z.2.length∈y.1.weights prog 89)/\c=mJ.cf z:=by
 obtain⟨a,ea,wa⟩:=gB underlying89 h 0 rfl underlying3;obtain⟨s,es,ws⟩:=aeI underlying89 h 1 rfl underlying9;refine⟨(a,s),⟨bounds_i64 wa,ws⟩,yR hl (λj hj=>?_)⟩;have hj:j<2:=hj;rcases(by omega:j=0\/j=1) with rfl|rfl
 ·exact ea
 ·exact es
theorem aaK (hl:c.length=12) (h:DataW.trod enc prog W base spare held n 99 c=some y):∃z:En,(kE z.cap/\aj z.cap.num/\aj z.cap.rights/\aj z.at'.1/\aj z.aW.1)/\c=dP.cf z:=by
 obtain⟨_,_,_,h0,_⟩:=nJ underlying99 h 0 rfl;obtain⟨_,_,_,h1,_⟩:=nJ underlying99 h 1 rfl;obtain⟨_,_,_,h2,_⟩:=nJ underlying99 h 2 rfl;obtain⟨_,_,_,h3,_⟩:=nJ underlying97 h1 0 rfl;obtain⟨a0,e0,w0⟩:=gB underlying95 h0 0 rfl underlying3;obtain⟨a1,e1,w1⟩:=gB underlying95 h0 1 rfl underlying3;obtain⟨a2,e2,w2⟩:=gB underlying85 h3 0 rfl underlying3;obtain⟨a3,e3,w3⟩:=gB underlying85 h3 1 rfl underlying3;obtain⟨a4,e4,w4⟩:=gB underlying97 h1 1 rfl underlying3;obtain⟨a5,e5,w5⟩:=gB underlying97 h1 2 rfl underlying23;obtain⟨a6,e6,w6⟩:=gB underlying97 h1 3 rfl underlying23;obtain⟨a7,e7,w7⟩:=gB underlying97 h1 4 rfl underlying3;obtain⟨a8,e8,w8⟩:=gB underlying97 h1 5 rfl underlying3;obtain⟨a9,e9,w9⟩:=gB underlying97 h1 6 rfl underlying23;obtain⟨b0,f0,v0⟩:=gB underlying95 h2 0 rfl underlying3;obtain⟨b1,f1,v1⟩:=gB underlying95 h2 1 rfl underlying3;have e0:=js e0;have e1:=js e1;have e2:=js (js e2);have e3:=js (js e3);have e4:=js e4;have e5:=js e5;have e6:=js e6;have e7:=js e7;have e8:=js e8;have e9:=js e9;have f0:=js f0;have f1:=js f1;have g6:=bounds_u32 w6;refine⟨⟨(a0,a1),⟨a2,a3,a4,a5,a6,a7,a8,a9⟩,(b0,b1)⟩,⟨⟨g6.1,by show a6<4294967296;omega⟩,bounds_i64 w3,bounds_i64 w4,bounds_i64 w0,bounds_i64 v0⟩,yR hl (λj hj=>?_)⟩;have hj:j<12:=hj;rcases(by omega:j=0\/j=1\/j=2\/j=3\/j=4\/j=5\/j=6\/j=7\/j=8\/j=9\/j=10\/j=11) with rfl|rfl|rfl|rfl|rfl|rfl|rfl|rfl|rfl|rfl|rfl|rfl
 ·exact e0
 ·exact e1
 ·exact e2
 ·exact e3
 ·exact e4
 ·exact e5
 ·exact e6
 ·exact e7
 ·exact e8
 ·exact e9
 ·exact f0
 ·exact f1
theorem aaH (hl:c.length=5) (h:DataW.trod enc prog W base spare held n 103 c=some y):∃z:Mp,(aj z.root/\z.va<4294967296/\aj z.rights/\aj z.at'.1)/\c=pM.cf z:=by
 obtain⟨_,_,_,h0,_⟩:=nJ underlying103 h 0 rfl;obtain⟨a0,e0,w0⟩:=gB underlying95 h0 0 rfl underlying3;obtain⟨a1,e1,w1⟩:=gB underlying95 h0 1 rfl underlying3;obtain⟨a2,e2,w2⟩:=gB underlying103 h 1 rfl underlying3;obtain⟨a3,e3,w3⟩:=gB underlying103 h 2 rfl underlying23;obtain⟨a4,e4,w4⟩:=gB underlying103 h 3 rfl underlying3;have e0:=js e0;have e1:=js e1;obtain⟨va,rfl,jC⟩:=PO w3;refine⟨⟨(a0,a1),a2,va,a4⟩,⟨bounds_i64 w2,jC,bounds_i64 w4,bounds_i64 w0⟩,yR hl (λj hj=>?_)⟩;have hj:j<5:=hj;rcases(by omega:j=0\/j=1\/j=2\/j=3\/j=4) with rfl|rfl|rfl|rfl|rfl
 ·exact e0
 ·exact e1
 ·exact e2
 ·exact e3
 ·exact e4
theorem aaI (hl:c.length=3) (h:DataW.trod enc prog W base spare held n 112 c=some y):∃z:Int×Int×Int,(aj z.1/\aj z.2.1)/\c=pN.cf z:=by
 obtain⟨a0,e0,w0⟩:=gB underlying112 h 0 rfl underlying3;obtain⟨a1,e1,w1⟩:=gB underlying112 h 1 rfl underlying3;obtain⟨a2,e2,w2⟩:=gB underlying112 h 2 rfl underlying23;refine⟨(a0,a1,a2),⟨bounds_i64 w0,bounds_i64 w1⟩,yR hl (λj hj=>?_)⟩;have hj:j<3:=hj;rcases(by omega:j=0\/j=1\/j=2) with rfl|rfl|rfl
 ·exact e0
 ·exact e1
 ·exact e2
theorem afi:prog.cellsOf 23=1:=by kernel_rfl
theorem aaF (hl:c.length=37) (h:DataW.trod enc prog W base spare held n 110 c=some y):∃z:Tc,(xe z/\aj z.num)/\c=mU.cf z:=by
 obtain⟨a0,e0,w0⟩:=gB underlying110 h 0 rfl underlying3;obtain⟨a1,e1,w1⟩:=gB underlying110 h 1 rfl underlying3;obtain⟨a2,e2,w2⟩:=gB underlying110 h 2 rfl underlying3;obtain⟨a3,e3⟩:=aeJ underlying110 h 3 rfl underlying4;obtain⟨_,_,_,h4,_⟩:=nJ underlying110 h 4 rfl;obtain⟨a5,e5,w5⟩:=gB underlying108 h4 1 rfl underlying23;obtain⟨m,y2,ps,h6,_⟩:=nJ underlying108 h4 0 rfl;have e5:=js e5;obtain⟨ys,m2,_,_,_,kH,aeq⟩:=DataW.trod_array underlying106 h6
 have each:∀i,i<32->∃a:Int,c[4+i]?=some (.int .u32 a)/\0<=a/\a<4294967296:=by
  intro i hi;have hy:=aeq i hi;rw[List.getElem?_eq_getElem Zo] at hy;generalize ys[i]=yi at hy;rw[afi] at hy;obtain⟨a,ea,_,wa⟩:=DataW.trod_int underlying23 hy;have g:=bounds_u32 wa;refine⟨a,?_,g.1,Zo⟩;have e7:=js (o:=i*1) (n:=1) (j:=0) (v:=.int .u32 a) (by rw[ea];rfl);have e8:=js (js e7);rw[<-e8];congr 1;show 4+i=4+(0+(i*1+0))
  omega
 obtain⟨R,hR⟩:=choose_lt each;have g5:=bounds_u32 w5;refine⟨⟨a0,a1,a2,a3,λj=>if j<32 then R j else 0,a5⟩,⟨⟨λj=>?_,g5.1,by show a5<4294967296;omega⟩,bounds_i64 w0⟩,yR (by rw[hl,mU.len];rfl) (λj hj=>?_)⟩
 ·show 0<=(if j<32 then R j else 0)/\(if j<32 then R j else 0)<4294967296
  split
  ·rename_i hj;exact(hR j hj).2
  ·omega
 ·have hj:j<37:=by rw[mU.len] at hj;exact hj
  by_cases h1:j<4
  ·rcases(by omega:j=0\/j=1\/j=2\/j=3) with rfl|rfl|rfl|rfl
   ·exact e0
   ·exact e1
   ·exact e2
   ·exact e3
  ·by_cases h2:j=36
   ·subst h2;exact e5
   ·obtain⟨r,rfl⟩:∃r,j=4+r:=⟨j - 4,Zo⟩
    have hr:r<32:=Zo;rw[(hR r hr).1];refine Eq.symm ((N9 _ hr).trans ?_);show some (Value.int .u32 (if r<32 then R r else 0))=_;rw[if_pos hr]
end
end
section
open Go.Deep
section
variable {H:Type} {enc:TypeId×Value->H} {W:World}
theorem afj:prog.cellsOf 31=9:=by kernel_rfl
theorem afM:prog.bytesOf 120=16:=by kernel_rfl
theorem af5:prog.cellsOf 120=aJ.sz:=by kernel_rfl
theorem af7:prog.cellsOf 87=oN.sz:=by kernel_rfl
theorem afb:prog.cellsOf 89=mJ.sz:=by kernel_rfl
theorem afa:prog.cellsOf 99=dP.sz:=by kernel_rfl
theorem af8:prog.cellsOf 103=pM.sz:=by kernel_rfl
theorem af6:prog.cellsOf 110=mU.sz:=by kernel_rfl
theorem af9:prog.cellsOf 112=pN.sz:=by kernel_rfl
theorem zP {cs:List Value} {o n:Nat} {v:Value} (h:(cs.drop o).take n=[v]):cs[o]?=some v:=by
 have:=js (cs:=cs) (o:=o) (n:=n) (j:=0) (v:=v) (by rw[h];rfl);simpa using this
theorem aax {r:Reach} {b0:Nat} {v:Value} {d:DataW H} {p:List MemPlace} (hv:Value.okWide prog W r b0 31 v) (h:DataW.Trod enc prog W 0 (λ_=>true) true 31 v d p) (hz:∀n∈d.weights prog 31,n<=reachBytes):
  ∃(S:Sk) (vt vo vb vc vm vr vi:Value),v=.agg #[Zi S.n,vt,Zu (S.c:Int),vo,vb,vc,vm,vr,vi]/\A5 S/\vu W vt vo vb vc vm vr vi S:=by
 obtain⟨cs,rfl,aR⟩:=okWide_struct underlying31 hv;rw[afj] at aR;obtain⟨fuel,hf⟩:=h;have hf:DataW.trod enc prog W 0 (λ_=>true) true fuel 31 cs.toList=some (d,p):=hf;obtain⟨n0,e0,w0⟩:=gB underlying31 hf 0 rfl underlying3;obtain⟨c2,e2,w2⟩:=gB underlying31 hf 2 rfl underlying23;obtain⟨c,rfl,hc⟩:=PO w2;obtain⟨_,y1,ps1,h1,hd1,rI⟩:=nJ underlying31 hf 1 rfl;obtain⟨_,y3,ps3,h3,DY,As⟩:=nJ underlying31 hf 3 rfl;obtain⟨_,y4,ps4,h4,hd4,GR⟩:=nJ underlying31 hf 4 rfl;obtain⟨_,y5,ps5,h5,hd5,Ar⟩:=nJ underlying31 hf 5 rfl;obtain⟨_,y6,ps6,h6,hd6,Aq⟩:=nJ underlying31 hf 6 rfl;obtain⟨_,y7,ps7,h7,hd7,hp7⟩:=nJ underlying31 hf 7 rfl;obtain⟨_,y8,ps8,h8,AJ,Ap⟩:=nJ underlying31 hf 8 rfl;have z1:∀n∈y1.1.weights prog 22,n<=reachBytes:=λn hn=>hz n (IV underlying31 hd1 rfl rI hn)
 have z4:∀n∈y4.1.weights prog 25,n<=reachBytes:=λn hn=>hz n (IV underlying31 hd4 rfl GR hn)
 haveI:Inhabited En:=⟨.df⟩;haveI:Inhabited Mp:=⟨.df⟩;haveI:Inhabited Tc:=⟨.df⟩;obtain⟨vt,zt,et,rt,_,wt⟩:=open_row aJ (λ_ _=>True) underlying22 af5 (λn c y hl h=>aaE hl h) h1;obtain⟨vo,zo,eo,ro,ko,_⟩:=open_row oN (λz _=>aj z.1/\aj z.2.1/\aj z.2.2) underlying24 af7 (λn c y hl h=>aaG hl h) h3;obtain⟨vb,zb,eb,rb,kb,_⟩:=open_row mJ (λz d=>aj z.1/\z.2.length∈d.weights prog 89) underlying25 afb (λn c y hl h=>aaL hl h) h4;obtain⟨vc,zc,ec,rc,kc,_⟩:=open_row dP (λz _=>kE z.cap/\aj z.cap.num/\aj z.cap.rights/\aj z.at'.1/\aj z.aW.1) underlying26 afa (λn c y hl h=>aaK hl h) h5;obtain⟨vm,zm,em,rm,km,_⟩:=open_row pM (λz _=>aj z.root/\z.va<4294967296/\aj z.rights/\aj z.at'.1) underlying27 af8 (λn c y hl h=>aaH hl h) h6;obtain⟨vr,zr,er,rr,kr,_⟩:=open_row mU (λz _=>xe z/\aj z.num) underlying28 af6 (λn c y hl h=>aaF hl h) h7;obtain⟨vi,zi,ei,ri,ki,_⟩:=open_row pN (λz _=>aj z.1/\aj z.2.1) underlying29 af9 (λn c y hl h=>aaI hl h) h8;refine⟨⟨n0,zt,c,zo,zb,zc,zm,zr,zi⟩,vt,vo,vb,vc,vm,vr,vi,?_,⟨bounds_i64 w0,hc,?_,λx hx=>?_,λx hx=>?_,λx hx=>?_,λx hx=>?_,λx hx=>?_,λx hx=>?_⟩,⟨rt,ro,rb,rc,rm,rr,ri⟩⟩
 ·have et:=zP et;have eo:=zP eo;have eb:=zP eb;have ec:=zP ec;have em:=zP em;have er:=zP er;have ei:=zP ei;congr 1;apply Array.toList_inj.1;refine yR (by rw[Array.length_toList,aR];rfl) (λj hj=>?_);have hj:j<9:=hj;rcases(by omega:j=0\/j=1\/j=2\/j=3\/j=4\/j=5\/j=6\/j=7\/j=8) with rfl|rfl|rfl|rfl|rfl|rfl|rfl|rfl|rfl
  ·exact e0
  ·exact et
  ·exact e2
  ·exact eo
  ·exact eb
  ·exact ec
  ·exact em
  ·exact er
  ·exact ei
 ·show zt.length<=10000000000000;by_cases h0:0<zt.length
  ·obtain⟨m,hm,hw⟩:=wt h0;have h9:=z1 _ hw;rw[afM] at h9;unfold reachBytes at h9;omega
  ·omega
 ·obtain⟨i,hi,rfl⟩:=List.mem_iff_getElem.1 hx;obtain⟨d,h,_⟩:=ko i hi;exact h
 ·obtain⟨i,hi,rfl⟩:=List.mem_iff_getElem.1 hx;obtain⟨d,h,hw⟩:=kb i hi;have h9:=z4 _ (hw _ h.2);exact⟨h.1,Nat.le_trans h9 Zd⟩
 ·obtain⟨i,hi,rfl⟩:=List.mem_iff_getElem.1 hx;obtain⟨d,h,_⟩:=kc i hi;exact h
 ·obtain⟨i,hi,rfl⟩:=List.mem_iff_getElem.1 hx;obtain⟨d,h,_⟩:=km i hi;exact h
 ·obtain⟨i,hi,rfl⟩:=List.mem_iff_getElem.1 hx;obtain⟨d,h,_⟩:=kr i hi;exact h
 ·obtain⟨i,hi,rfl⟩:=List.mem_iff_getElem.1 hx;obtain⟨d,h,_⟩:=ki i hi;exact h
end
end
end Go.Proofs.YtphkconoooeidaaGreatDoor
namespace Go.Vx
section
variable {H:Type} {enc:TypeId×Value->H}
end
end Go.Vx
namespace Go.Proofs.YtphkconoooeidaaGreatDoor
section
open Go.Deep
abbrev Dh : List (String × DataW Unit) := [("vault/caps.noSlot", Rows.laid_vault_caps_noSlot)]
theorem SY : prog.globalNamed "vault/caps.noSlot" = some 0 := by kernel_rfl
theorem W4:(prog.globals[0]?).map (·.type)=some 95:=by kernel_rfl
theorem NX {α:Type}:∀(l:List α),l.length=2->∃a b,l=[a,b]
 |[a,b],_=>⟨a,b,rfl⟩
 |[],h=>by simp at h
 |[_],h=>by simp at h
 |_::_::_::_,h=>by simp at h
theorem ab3 {W:World} {fuel:Nat} {sp:Nat->Bool} {enc:TypeId×Value->Unit} {base:Nat} {held:Bool} {v0 v1:Value} {q:List MemPlace}
  (h:DataW.trod enc prog W base sp held fuel 95 [v0,v1]=some (Rows.laid_vault_caps_noSlot,q)):v0=.int .i64 (-1)/\v1=.int .i64 (-1):=by
 obtain⟨xs,k,hk,QP,_,iz,R4⟩:=DataW.trod_struct underlying95 h;obtain⟨y0,y1,rfl⟩:=NX xs iz;have g0:=R4 0 _ rfl;have g1:=R4 1 _ rfl;simp[afk] at g0 g1;obtain⟨n0,q0,d0,b0⟩:=DataW.trod_int underlying3 g0;obtain⟨n1,q1,d1,b1⟩:=DataW.trod_int underlying3 g1;simp only[List.cons.injEq,and_true] at q0 q1;subst q0 q1;simp only[Prod.mk.injEq,Rows.laid_vault_caps_noSlot,List.map_cons,List.map_nil,DataW.agg.injEq,List.cons.injEq,and_true] at QP;obtain⟨⟨h0,h1⟩,_⟩:=QP;rw[d0] at h0;rw[d1] at h1;simp only[DataW.lit.injEq,Lit.int.injEq,true_and] at h0 h1;rw[<-h0,<-h1];exact⟨rfl,rfl⟩
theorem ab4 {W:World} (h:laidMetH prog Dh W) (hs:W.ShapedOpen prog):mL W:=by
 rw[MakeChecks.laidMetH_plain _ _ _ (by kernel_rfl)] at h;obtain⟨ps,⟨g0,t0,cs0,f0,p0,q0,BV,ht0,Ag,yF,_⟩,_⟩:=h;obtain rfl:=Option.some.inj (SY.symm.trans BV);obtain rfl:=Option.some.inj (W4.symm.trans ht0);obtain⟨cs,hb,aR,_⟩:=hs.1 0 #[.int .i64 0,.int .i64 0] 95 Zd (by kernel_rfl)
 have hv : W.var? prog "vault/caps.noSlot" = some cs := by
  simp only[World.var?,SY,Option.bind_some,hb]
 rw[hv] at Ag;injection Ag with Ag
 subst Ag;have hl:cs.toList.length=2:=by simpa using aR
 obtain⟨v0,v1,we⟩:=NX _ hl;rw[we] at yF;obtain⟨rfl,rfl⟩:=ab3 yF
 have du:cs=#[.int .i64 (-1),.int .i64 (-1)]:=by
  apply Array.toList_inj.1;rw[we]
 unfold mL;rw[hb,du]
theorem ack (os:Os) (args:Array Value):laidMetH prog Dh ((World.doorLaid prog 400 os).forCall (λ_ _=>0) ⟨#[],args,[]⟩).memory:=
 laidMetH_of_parts3 (fuel:=8) (laidMet_of_run' 8 (by kernel_rfl) (by kernel_rfl)) (by kernel_rfl) (by kernel_rfl)
end
theorem ad7:(Rows.kernBootsRow.wf (OpenSpec.ofChange Rows.kernBootsSpec))=true:=by kernel_rfl
theorem acW:(laidOutB prog)=true:=by kernel_rfl
theorem acL:(mapsRowed prog)=true:=by kernel_rfl
theorem acH:(f3.params.all (prog.readableRec ·))=true:=by kernel_rfl
theorem acG:(namedTie prog Rows.kernBootsRow.named Rows.kernBootsSpec.vars)=true:=by kernel_rfl
theorem acF:((Rows.kernBootsRow.stops==[]))=true:=by kernel_rfl
theorem acE:((prog.stops==[]))=true:=by kernel_rfl
theorem acD:((Rows.kernBootsRow.knobs==[]))=true:=by kernel_rfl
theorem acC:((prog.stopKnobs==[]))=true:=by kernel_rfl
theorem ad6:((Rows.kernBootsRow.inPlace==prog.inPlace 3))=true:=by kernel_rfl
theorem ad5:((Rows.kernBootsRow.unfollowed==prog.unfollowed 3))=true:=by kernel_rfl
theorem ad4:((Rows.kernBootsRow.recurses==prog.recurses 3))=true:=by kernel_rfl
theorem ad3:((Rows.kernBootsRow.named==prog.varsNamed 3))=true:=by kernel_rfl
theorem ad2:((Rows.kernBootsRow.maps==(f3.params.toList++Rows.kernBootsSpec.plain.varTypes prog).any (prog.mapsRec ·)))=true:=by kernel_rfl
theorem ad1:((Rows.kernBootsRow.ifaces==(f3.params.toList++Rows.kernBootsSpec.plain.varTypes prog).any (prog.ifacesRec ·)))=true:=by kernel_rfl
theorem ad0:((Rows.kernBootsRow.mapsOut==prog.mapsAmong f3.resultTypes.toList))=true:=by kernel_rfl
theorem acZ:((Rows.kernBootsRow.loops==(f3.params.toList++Rows.kernBootsSpec.plain.varTypes prog).any (prog.loopsFrom ·)))=true:=by kernel_rfl
theorem acY:((Rows.kernBootsRow.wideKeys==(f3.params.toList++Rows.kernBootsSpec.plain.varTypes prog++f3.resultTypes.toList).any (prog.wideKeysFrom ·)))=true:=by kernel_rfl
theorem acX:(Rows.kernBootsSpec.vars.all (prog.varReadable ·))=true:=by kernel_rfl
theorem acV:(f3.resultTypes.all (λt=>prog.readableRec t&&decide (t<prog.types.size)))=true:=by kernel_rfl
theorem acU:((Rows.kernBootsRow.ifacesOut==f3.resultTypes.toList.any (prog.ifacesRec ·)))=true:=by kernel_rfl
theorem acT:((Rows.kernBootsRow.loopsOut==f3.resultTypes.toList.any (prog.loopsFrom ·)))=true:=by kernel_rfl
theorem acS:((Rows.kernBootsRow.plainKeys==prog.plainKeys))=true:=by kernel_rfl
theorem acR:(Rows.kernBootsRow.shortTexts.isNone)=true:=by kernel_rfl
theorem acQ:(prog.stopsHeard)=true:=by kernel_rfl
theorem acP:(prog.mayEnter)=true:=by kernel_rfl
theorem acO:((Rows.kernBootsRow.lifted==prog.liftsFinal))=true:=by kernel_rfl
theorem acN:((prog.make==some Rows.kernBootsRow.make))=true:=by kernel_rfl
theorem acM:((Rows.kernBootsRow.kinds==(if Rows.kernBootsRow.domain.isEmpty then [] else f3.params.toList.map λt=>match prog.underlying t with|some (.int k)=>some k|_=>none)))=true:=by kernel_rfl
theorem acK:((Rows.kernBootsRow.pinned==Rows.kernBootsRow.pinnedBy))=true:=by kernel_rfl
theorem acJ:((Rows.kernBootsRow.veiled==(f3.params.toList++Rows.kernBootsSpec.plain.varTypes prog++f3.resultTypes.toList).any (prog.veiledRec ·)))=true:=by kernel_rfl
theorem acI:(Rows.kernBootsRow.veiledFits prog f3.params.toList (f3.params.toList++Rows.kernBootsSpec.plain.varTypes prog++f3.resultTypes.toList))=true:=by kernel_rfl
theorem acB:joinedFacts Tryz.pinned.checked.prog 3 f3 Rows.kernBootsSpec Rows.kernBootsRow=true:=by
 simp only[joinedFacts,Bool.and_eq_true];exact⟨⟨⟨⟨⟨⟨⟨⟨⟨⟨⟨⟨⟨⟨⟨⟨⟨⟨⟨⟨⟨⟨⟨⟨⟨⟨⟨⟨⟨⟨⟨ad7,acW⟩,acL⟩,acH⟩,acG⟩,acF⟩,acE⟩,acD⟩,acC⟩,ad6⟩,ad5⟩,ad4⟩,ad3⟩,ad2⟩,ad1⟩,ad0⟩,acZ⟩,acY⟩,acX⟩,acV⟩,acU⟩,acT⟩,acS⟩,acR⟩,acQ⟩,acP⟩,acO⟩,acN⟩,acM⟩,acK⟩,acJ⟩,acI⟩
end Go.Proofs.YtphkconoooeidaaGreatDoor

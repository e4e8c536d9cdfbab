import Derived.Test.YtphkconoooeidaaGreatDoorCp5
import Derived.Laws.BitsAllLaws
import Derived.Laws.BitsLemmas
set_option maxRecDepth 100000
set_option maxHeartbeats 8000000
set_option linter.unusedVariables false
set_option linter.unusedSimpArgs false
open Go Go.Vx Go.Proofs.Tryz Go.ChangeShapes Go.WideShapes Go.ChangeAt Go.RowKit
namespace Go.Vx
structure Ms where
 zY:Int
 w0:Int
 w1:Int
 w2:Int
 w3:Int
 jW:Int
def Ms.df:Ms:=⟨0,0,0,0,0,0⟩
structure Wt where
 at':Int
 dh:Int
 nZ:Int
 m:Ms
def Wt.df:Wt:=⟨0,0,0,.df⟩
structure Pc where
 num:Int
 dj:Bool
 word:Int
def Pc.df:Pc:=⟨0,false,0⟩
structure Oc where
 err:Int
 peer:Int
 m:Ms
 wt:Bool
 ask:Bool
 ft:Bool
def Oc.df:Oc:=⟨0,0,.df,false,false,false⟩
structure Bs where
 ps:List Pc
 ws:List Wt
def msV (m:Ms):Value:=.agg #[Zu m.zY,Zu m.w0,Zu m.w1,Zu m.w2,Zu m.w3,Zu m.jW]
def NM (x:Wt):List Value:=[Zi x.at',Zi x.dh,Zi x.nZ,Zu x.m.zY,Zu x.m.w0,Zu x.m.w1,Zu x.m.w2,Zu x.m.w3,Zu x.m.jW]
def wtV (x:Wt):Value:=.agg #[Zi x.at',Zi x.dh,Zi x.nZ,Zu x.m.zY,Zu x.m.w0,Zu x.m.w1,Zu x.m.w2,Zu x.m.w3,Zu x.m.jW]
def IS:Lay Wt:=⟨NM,9,λ_=>rfl,λa u hu=>by
 simp only[NM,List.mem_cons,List.not_mem_nil,or_false] at hu
 rcases hu with rfl|rfl|rfl|rfl|rfl|rfl|rfl|rfl|rfl<;>rfl,Zd⟩
def Pr (p:Pc):List Value:=[Zi p.num,.bool p.dj,Zu p.word]
def F8:Lay Pc:=⟨Pr,3,λ_=>rfl,λa u hu=>by
 simp only[Pr,List.mem_cons,List.not_mem_nil,or_false] at hu
 rcases hu with rfl|rfl|rfl<;>rfl,Zd⟩
def ocV (o:Oc):Value:=.agg #[Zi o.err,Zi o.peer,Zu o.m.zY,Zu o.m.w0,Zu o.m.w1,Zu o.m.w2,Zu o.m.w3,Zu o.m.jW,.bool o.wt,.bool o.ask,.bool o.ft]
def Da:Ms:=⟨0,0,0,0,0,0⟩
def msB (b:Int):Ms:=⟨0,0,0,0,0,b⟩
def pF (ps:List Pc) (n:Int):Option Nat:=dq (λp=>decide (p.num=n)) ps 0
def tF (ws:List Wt) (t:Int):Option Nat:=dq (λx=>decide (x.dh=t)) ws 0
def aF (ws:List Wt) (n:Int):Option Nat:=dq (λx=>decide (x.at'=n)) ws 0
def Er {α:Type} (l:List α) (i:Nat):List α:=l.take i++l.drop (i+1)
def vO (e:Int):Oc:=⟨e, -1,Da,false,false,false⟩
def JP:Oc:=⟨0, -1,Da,true,false,false⟩
def PH (p h:Int) (m:Ms):Oc:=⟨0,p,m,false,decide (h=3\/h=7),decide (h=7)⟩
def PI (p b:Int):Oc:=⟨0,p,msB b,false,false,false⟩
def oM (s:Bs) (i:Nat):Pc:=s.ps.getD i .df
def sW (s:Bs) (i:Nat):Wt:=s.ws.getD i .df
def rl (s:Bs) (n:Int) (b:Bool) (t:Int):Int:=match pF s.ps n with
 |none=>6
 |some i=>if (oM s i).dj≠b then 6 else if (tF s.ws t).isSome=true then 16 else 0
def fU (h:Int):Bool:=decide (h=1\/h=2\/h=3\/h=7)
def nX (s:Bs) (n:Int):Int:=if n<0 then 1 else if (pF s.ps n).isSome=true then 7 else 0
def jR (s:Bs) (n:Int) (b:Bool):Bs:=if nX s n=0 then ⟨s.ps++[⟨n,b,0⟩],s.ws⟩ else s
def SV (s:Bs) (n:Int):Option Nat:=match aF s.ws n with|none=>none|some i=>if (sW s i).nZ=4 then some i else none
def Oz (s:Bs) (n:Int):Option Nat:=match aF s.ws n with|none=>none|some i=>if (sW s i).nZ=4 then none else some i
def agu (s:Bs) (n t h:Int) (m:Ms):Oc:=if fU h=false then vO 1 else if rl s n false t≠0 then vO (rl s n false t) else match SV s n with
 |some i=>PH (sW s i).dh h m
 |none=>if h=1 then vO 17 else JP
def agt (s:Bs) (n t h:Int) (m:Ms):Bs:=if fU h=false then s else if rl s n false t≠0 then s else match SV s n with
 |some i=>⟨s.ps,Er s.ws i⟩
 |none=>if h=1 then s else ⟨s.ps,s.ws++[⟨n,t,h,m⟩]⟩
def ah7 (s:Bs) (n t:Int) (b:Bool):Oc:=if rl s n false t≠0 then vO (rl s n false t) else match Oz s n with
 |some i=>PH (sW s i).dh (sW s i).nZ (sW s i).m
 |none=>if b=false then vO 17 else JP
def ah6 (s:Bs) (n t:Int) (b:Bool):Bs:=if rl s n false t≠0 then s else match Oz s n with
 |some i=>⟨s.ps,Er s.ws i⟩
 |none=>if b=false then s else ⟨s.ps,s.ws++[⟨n,t,4,Da⟩]⟩
def sF (s:Bs) (n:Int):Option Nat:=match pF s.ps n with|none=>none|some i=>if (oM s i).dj=true then some i else none
def orW (a b:Int):Int:=bits .or .u32 a b
def Ox (s:Bs) (k:Nat) (x:Int):Bs:=⟨s.ps.set k {oM s k with word:=x},s.ws⟩
def agx (s:Bs) (n b:Int):Oc:=match sF s n with
 |none=>vO 6
 |some k=>match aF s.ws n with
  |some i=>PI (sW s i).dh b
  |none=>⟨0, -1,Da,false,false,false⟩
def agw (s:Bs) (n b:Int):Bs:=match sF s n with
 |none=>s
 |some k=>match aF s.ws n with
  |some i=>⟨s.ps,Er s.ws i⟩
  |none=>Ox s k (orW (oM s k).word b)
def ah3 (s:Bs) (n t:Int) (b:Bool):Oc:=if rl s n true t≠0 then vO (rl s n true t) else match pF s.ps n with
 |none=>vO 6
 |some k=>if (oM s k).word≠0 then PI (-1) (oM s k).word else if b=false then vO 17 else JP
def ah2 (s:Bs) (n t:Int) (b:Bool):Bs:=if rl s n true t≠0 then s else match pF s.ps n with
 |none=>s
 |some k=>if (oM s k).word≠0 then Ox s k 0 else if b=false then s else ⟨s.ps,s.ws++[⟨n,t,6,Da⟩]⟩
def ahk (s:Bs) (t:Int):Int:=match tF s.ws t with|none=>16|some _=>0
def ahi (s:Bs) (t:Int):Bs:=match tF s.ws t with|none=>s|some i=>⟨s.ps,Er s.ws i⟩
def jS (s:Bs) (n:Int):List Int:=(s.ws.filter λx=>decide (x.at'=n)).map (·.dh)
def ry (s:Bs) (n:Int):Int:=match pF s.ps n with|none=>6|some _=>0
def oP (s:Bs) (n:Int):List Int:=match pF s.ps n with|none=>[]|some _=>jS s n
def ahg (s:Bs) (n:Int):Bs:=match pF s.ps n with|none=>s|some i=>⟨Er s.ps i,s.ws.filter λx=>decide (x.at'≠n)⟩
def nV (s:Bs) (t:Int):Int:=match tF s.ws t with|none=> -1|some i=>(sW s i).at'
def qj (s:Bs) (t:Int):Int:=match tF s.ws t with|none=>0|some i=>(sW s i).nZ
def qi (s:Bs) (n:Int):Int:=match sF s n with|none=>6|some _=>0
def qh (s:Bs) (n:Int):Int:=match sF s n with|none=>0|some k=>(oM s k).word
theorem Hq {α:Type} {d:α} {l:List α} {i:Nat} (h:i<l.length):l.getD i d=l[i]:=by
 rw[List.getD_eq_getElem?_getD,List.getElem?_eq_getElem h];rfl
end Go.Vx
namespace Go.Proofs.YtphkconoooeidaaGreatDoor
structure sU (s:Bs):Prop where
 np:(s.ps.map (·.num)).Nodup
 nt:(s.ws.map (·.dh)).Nodup
 at':∀x∈s.ws,∃p∈s.ps,p.num=x.at'/\(p.dj=false->x.nZ=2\/x.nZ=3\/x.nZ=4\/x.nZ=7)
 ip:∀p∈s.ps,aj p.num
 iw:∀x∈s.ws,aj x.dh
section
structure jf (U:Nat->Prop) (w:World) (rb:Nat) (vp vw:Value) (s:Bs):Prop where
 r:w.heap[rb]?=some (.cells #[vp,vw] 65 (0,0))
 p:ai F8 w 0 300 vp s.ps
 l:ai IS w 0 285 vw s.ws
 ur:¬U rb
 up:∀k,vp.ownBlock=some k->¬U k
 ul:∀k,vw.ownBlock=some k->¬U k
 low:∀k,U k->k<w.heap.size
 np:s.ps.length<=1000000
 nl:s.ws.length<=1000000
variable {U V S:Nat->Prop} {w w2 w3:World} {rb:Nat} {vp vw:Value} {s:Bs}
theorem jf.c0 (h:jf U w rb vp vw s):w.cell? ⟨rb,0,none⟩=some vp:=Zl h.r
theorem jf.c1 (h:jf U w rb vp vw s):w.cell? ⟨rb,1,none⟩=some vw:=Zl h.r
theorem jf.step (h:jf U w rb vp vw s) (ho:ae S w w2) (hS:∀k,k<w.heap.size->S k->U k) (hV:∀k,V k->U k\/(w.heap.size<=k/\k<w2.heap.size)):jf V w2 rb vp vw s:=by
 have l1:=au h.r
 have hn:∀k,k<w.heap.size->¬U k->¬V k:=λk hk hu hv=>by
  rcases hV k hv with h3|h3
  ·exact hu h3
  ·omega
 refine⟨ae.keep ho h.r (λs=>h.ur (hS _ l1 s)),h.p.kept ho (λk hk s=>h.up k hk (hS _ (cH h.p hk).2 s)),h.l.kept ho (λk hk s=>h.ul k hk (hS _ (cH h.l hk).2 s)),hn _ l1 h.ur,λk hk=>hn _ (cH h.p hk).2 (h.up k hk),λk hk=>hn _ (cH h.l hk).2 (h.ul k hk),λk hk=>?_,h.np,h.nl⟩;rcases hV k hk with h3|h3
 ·exact Nat.lt_of_lt_of_le (h.low k h3) ho.size
 ·exact h3.2
theorem jf.quiet (h:jf U w rb vp vw s) (ho:Zq w w2):jf U w2 rb vp vw s:=h.step ho (λ_ _ h=>h.elim) (λ_ h=>Or.inl h)
def zg (U:Nat->Prop) (w:World) (rb:Nat) (s:Bs):Prop:=∃vp vw,jf U w rb vp vw s
theorem zg.step (h:zg U w rb s) (ho:ae S w w2) (hS:∀k,k<w.heap.size->S k->U k) (hV:∀k,V k->U k\/(w.heap.size<=k/\k<w2.heap.size)):zg V w2 rb s:=by
 obtain⟨vp,vw,h⟩:=h;exact⟨vp,vw,h.step ho hS hV⟩
structure W9 (w:World) (g k:Nat) (x:Wt):Prop where
 c0:w.cell? ⟨g,k*9,none⟩=some (Zi x.at')
 c1:w.cell? ⟨g,k*9+1,none⟩=some (Zi x.dh)
 c2:w.cell? ⟨g,k*9+2,none⟩=some (Zi x.nZ)
 c3:w.cell? ⟨g,k*9+3,none⟩=some (Zu x.m.zY)
 c4:w.cell? ⟨g,k*9+4,none⟩=some (Zu x.m.w0)
 c5:w.cell? ⟨g,k*9+5,none⟩=some (Zu x.m.w1)
 c6:w.cell? ⟨g,k*9+6,none⟩=some (Zu x.m.w2)
 c7:w.cell? ⟨g,k*9+7,none⟩=some (Zu x.m.w3)
 c8:w.cell? ⟨g,k*9+8,none⟩=some (Zu x.m.jW)
theorem JG {base:Nat} {T:TypeId} {v:Value} {xs:List Wt} (h:ai IS w base T v xs):∃p c,v=.slice p xs.length c/\∀(k:Nat) (hk:k<xs.length),∃g,p=some ⟨g,0,none⟩/\W9 w g k xs[k]:=by
 obtain⟨p,c,rfl,_,_,hg⟩:=h.form;refine⟨p,c,rfl,λk hk=>?_⟩;obtain⟨g,rfl,_⟩:=hg Zo;exact⟨g,rfl,h.cell k 0 hk Zd,h.cell k 1 hk Zd,h.cell k 2 hk Zd,h.cell k 3 hk Zd,h.cell k 4 hk Zd,h.cell k 5 hk Zd,h.cell k 6 hk Zd,h.cell k 7 hk Zd,h.cell k 8 hk Zd⟩
structure P3 (w:World) (g k:Nat) (x:Pc):Prop where
 c0:w.cell? ⟨g,k*3,none⟩=some (Zi x.num)
 c1:w.cell? ⟨g,k*3+1,none⟩=some (.bool x.dj)
 c2:w.cell? ⟨g,k*3+2,none⟩=some (Zu x.word)
theorem Py {base:Nat} {T:TypeId} {v:Value} {xs:List Pc} (h:ai F8 w base T v xs):∃p c,v=.slice p xs.length c/\∀(k:Nat) (hk:k<xs.length),∃g,p=some ⟨g,0,none⟩/\P3 w g k xs[k]:=by
 obtain⟨p,c,rfl,_,_,hg⟩:=h.form;refine⟨p,c,rfl,λk hk=>?_⟩;obtain⟨g,rfl,_⟩:=hg Zo;exact⟨g,rfl,h.cell k 0 hk Zd,h.cell k 1 hk Zd,h.cell k 2 hk Zd⟩
theorem JF {ps:List Pc} {n:Int} {i:Nat} (h:pF ps n=some i):∃hi:i<ps.length,ps[i].num=n:=by
 obtain⟨hl,hp⟩:=uP h;have e:i - 0=i:=Nat.sub_zero i;simp only[e] at hl hp;exact⟨hl,of_decide_eq_true hp⟩
theorem I7 {ws:List Wt} {n:Int} {i:Nat} (h:tF ws n=some i):∃hi:i<ws.length,ws[i].dh=n:=by
 obtain⟨hl,hp⟩:=uP h;have e:i - 0=i:=Nat.sub_zero i;simp only[e] at hl hp;exact⟨hl,of_decide_eq_true hp⟩
theorem Pk (h:jf U w rb vp vw s) (n:Int):Zk 152 #[Zp rb,Zi n] w λe w'=>Zr e (Zi (ti (pF s.ps n)))/\w'=w:=by
 have c0:=h.c0;have hn:=h.np;obtain⟨p,c,hv,hb⟩:=Py h.p;rw[hv] at c0;have HB:=aa hb;clear h hb hv;generalize s.ps=es at c0 hn HB|-;obtain⟨N,hN⟩:=Ze (es.length);have HN:=aa hN;rw[<-hN] at c0 hn;clear hN;go_enter func152,ntmps152;go_wp2_with fail
 go_loopw [5] (λd wr=>∃k:Nat,d=Zi (k:Int)/\k<=N/\Hid (dq (λb:Pc=>decide (b.num=n)) (es.drop k) k=pF es n)/\wr=w) (λd _=>N - (RowKit.intOf d).toNat)
 case atStart=>exact⟨0,rfl,Zo,(show dq _ (es.drop 0) 0=_ from by rw[List.drop_zero];rfl),rfl⟩
 case round=>
  obtain⟨k,rfl,hk,HQ,rfl⟩:=hrel;by_cases ah:k<N
  ·have bq:k<es.length:=by have:=HN.j;omega
   have h1:(k:Int)<(N:Int):=Zo;have bf:0<=(k:Int)/\(k:Int)<(N:Int):=Zo;have iY:=Zf k Zo;obtain⟨g,rfl,hg⟩:=HB.j k bq;have b0:=hg.c0;have hq:=HQ.j;rw[Aa es k bq] at hq;by_cases he:es[k].num=n
   ·rw[if_pos (decide_eq_true he)] at hq;have HE:=aa hq;rw[he] at b0;clear hq ah HQ he hg;go_wp2_with fail
    all_goals
     go_ret;exact⟨by rw[<-HE.j];rfl,rfl⟩
   ·rw[if_neg (by simpa using he)] at hq;have HE:=aa hq;have gm:(es[k].num==n)=false:=by simpa using he
    clear hg;generalize es[k].num=m at b0 he gm;clear hq ah HQ;go_wp2_with fail;go_roundw
    case rel=>exact⟨k+1,by go_num,Zo,HE,trivial⟩
    case measure=>exact Zm
  ·obtain rfl:k=N:=Zo;have hq:=HQ.j;rw[HN.j,Ab] at hq;have HE:=aa hq;have h1:¬(k:Int)<(k:Int):=Zo;clear hq ah HQ;go_wp2_with fail
   all_goals
    go_ret;exact⟨by rw[<-HE.j];rfl,rfl⟩
theorem NP (h:jf U w rb vp vw s) (n:Int):Zk 132 #[Zp rb,Zi n] w λe w'=>Zr e (Zi (ti (tF s.ws n)))/\w'=w:=by
 have c0:=h.c1;have hn:=h.nl;obtain⟨p,c,hv,hb⟩:=JG h.l;rw[hv] at c0;have HB:=aa hb;clear h hb hv;generalize s.ws=es at c0 hn HB|-;obtain⟨N,hN⟩:=Ze (es.length);have HN:=aa hN;rw[<-hN] at c0 hn;clear hN;go_enter func132,ntmps132;go_wp2_with fail
 go_loopw [5] (λd wr=>∃k:Nat,d=Zi (k:Int)/\k<=N/\Hid (dq (λb:Wt=>decide (b.dh=n)) (es.drop k) k=tF es n)/\wr=w) (λd _=>N - (RowKit.intOf d).toNat)
 case atStart=>exact⟨0,rfl,Zo,(show dq _ (es.drop 0) 0=_ from by rw[List.drop_zero];rfl),rfl⟩
 case round=>
  obtain⟨k,rfl,hk,HQ,rfl⟩:=hrel;by_cases ah:k<N
  ·have bq:k<es.length:=by have:=HN.j;omega
   have h1:(k:Int)<(N:Int):=Zo;have bf:0<=(k:Int)/\(k:Int)<(N:Int):=Zo;have iY:=Zf k Zo;obtain⟨g,rfl,hg⟩:=HB.j k bq;have b0:=hg.c1;have hq:=HQ.j;rw[Aa es k bq] at hq;by_cases he:es[k].dh=n
   ·rw[if_pos (decide_eq_true he)] at hq;have HE:=aa hq;rw[he] at b0;clear hq ah HQ he hg;go_wp2_with fail
    all_goals
     go_ret;exact⟨by rw[<-HE.j];rfl,rfl⟩
   ·rw[if_neg (by simpa using he)] at hq;have HE:=aa hq;have gm:(es[k].dh==n)=false:=by simpa using he
    clear hg;generalize es[k].dh=m at b0 he gm;clear hq ah HQ;go_wp2_with fail;go_roundw
    case rel=>exact⟨k+1,by go_num,Zo,HE,trivial⟩
    case measure=>exact Zm
  ·obtain rfl:k=N:=Zo;have hq:=HQ.j;rw[HN.j,Ab] at hq;have HE:=aa hq;have h1:¬(k:Int)<(k:Int):=Zo;clear hq ah HQ;go_wp2_with fail
   all_goals
    go_ret;exact⟨by rw[<-HE.j];rfl,rfl⟩
def agJ:Array Value:=#[Zi 0,Zi 0,Zu 0,Zu 0,Zu 0,Zu 0,Zu 0,Zu 0,.bool false,.bool false,.bool false]
structure Z11 (w:World) (g:Nat):Prop where
 c0:w.cell? ⟨g,0,none⟩=some (Zi 0)
 c1:w.cell? ⟨g,1,none⟩=some (Zi 0)
 c2:w.cell? ⟨g,2,none⟩=some (Zu 0)
 c3:w.cell? ⟨g,3,none⟩=some (Zu 0)
 c4:w.cell? ⟨g,4,none⟩=some (Zu 0)
 c5:w.cell? ⟨g,5,none⟩=some (Zu 0)
 c6:w.cell? ⟨g,6,none⟩=some (Zu 0)
 c7:w.cell? ⟨g,7,none⟩=some (Zu 0)
 c8:w.cell? ⟨g,8,none⟩=some (.bool false)
 c9:w.cell? ⟨g,9,none⟩=some (.bool false)
 Tz:w.cell? ⟨g,10,none⟩=some (.bool false)
 fz:∀j,w.frozen? ⟨g,j,none⟩=false
 lt:g<w.heap.size
end
end Go.Proofs.YtphkconoooeidaaGreatDoor
namespace Go.Vx
section
def Up (U:Nat->Prop) (w w2:World):Nat->Prop:=λk=>U k\/(w.heap.size<=k/\k<w2.heap.size)
def ahp (R:(Nat->Prop)->World->Prop):Prop:=∀(U V S:Nat->Prop) (w w2:World),R U w->ae S w w2->(∀k,k<w.heap.size->S k->U k)->(∀k,V k->U k\/(w.heap.size<=k/\k<w2.heap.size))->R V w2
variable {R:(Nat->Prop)->World->Prop} {U:Nat->Prop} {w w2 w3 w4:World}
end
end Go.Vx
namespace Go.Proofs.YtphkconoooeidaaGreatDoor
section
variable {U V S:Nat->Prop} {w w2 w3:World} {rb:Nat} {vp vw:Value} {s:Bs}
theorem pcK:Kind prog F8 62 300:=kG (z:=.agg #[Zi 0,.bool false,Zu 0]) (b:=16) underlying62 Zx rfl Zd
theorem jf.XK {v':Value} {kP:List Pc} (h:jf U w rb vp vw s) (ho:ai F8 w3 0 300 v' kP) (ay:ae (λk=>vp.ownBlock=some k) w w3) (hl:∀k,v'.ownBlock=some k->vp.ownBlock=some k\/w.heap.size<=k) (hn:kP.length<=1000000):
  (∃x,w3.cell? ⟨rb,0,none⟩=some x)/\w3.frozen? ⟨rb,0,none⟩=false/\zg U (w3.setCell ⟨rb,0,none⟩ v') rb ⟨kP,s.ws⟩/\Zn U w (w3.setCell ⟨rb,0,none⟩ v'):=by
 have n1:∀k,vp.ownBlock=some k->k≠rb:=λk hk=>by
  obtain⟨cur,hc⟩:=bu h.p hk;exact cE hc h.r Zd
 have n2:∀k j,vp.ownBlock=some k->vw.ownBlock=some j->k≠j:=λk j hk hj=>by
  obtain⟨cur,hc⟩:=bu h.p hk;obtain⟨lx,bH⟩:=bu h.l hj;exact cE hc bH Zd
 have n3:∀j,vw.ownBlock=some j->j≠rb:=λj hj=>by
  obtain⟨lx,bH⟩:=bu h.l hj;exact cE bH h.r Zd
 have gP:w3.heap[rb]?=some (.cells #[vp,vw] 65 (0,0)):=by rw[ay.block rb (au h.r) (λe=>n1 rb e rfl)];exact h.r
 have tE:∀k,v'.ownBlock=some k->k≠rb:=λk hk=>by
  obtain⟨cur,hc⟩:=bu ho hk;exact cE hc gP Zd
 have hs:ae (λk=>k=rb) w3 (w3.setCell ⟨rb,0,none⟩ v'):=ae.setCell (S:=λk=>k=rb) (ae.refl _ w3) (Or.inl rfl) _;have rK:ai IS w3 0 285 vw s.ws:=h.l.kept ay (λk hk e=>n2 k k e hk rfl)
 have Ah:∀k,v'.ownBlock=some k->¬U k:=by
  intro k hk;rcases hl k hk with hl|hl
  ·exact h.up k hl
  ·intro hu;have:=h.low k hu;omega
 have hrr:(w3.setCell ⟨rb,0,none⟩ v').heap[rb]?=some (.cells #[v',vw] 65 (0,0)):=by rw[heap_setCell_same _ _ 0 _ _ v' gP];rfl
 refine⟨⟨vp,Zl gP⟩,by simp[World.frozen?,gP],⟨_,_,⟨hrr,ho.kept hs tE,rK.kept hs (λk hk e=>n3 k hk e),h.ur,Ah,h.ul,λk hk=>Nat.lt_of_lt_of_le (h.low k hk) (Nat.le_trans ay.size hs.size),hn,h.nl⟩⟩,?_⟩;refine(ay.mono (λk _ hk=>h.up k hk)).trans ?_;exact hs.mono (λk _ hk=>by subst hk;exact h.ur)
end
section
variable {U V S:Nat->Prop} {w w2 w3:World} {rb:Nat} {vp vw:Value} {s:Bs}
theorem JA (h:jf U w rb vp vw s) {n:Int} (hi:pF s.ps n=none):Zk 152 #[Zp rb,Zi n] w λe w'=>Zr e (Zi (-1))/\w'=w:=by
 have:=Pk h n;rw[hi] at this;exact this
theorem Jz (h:jf U w rb vp vw s) {n:Int} {i:Nat} (hi:pF s.ps n=some i):Zk 152 #[Zp rb,Zi n] w λe w'=>Zr e (Zi (i:Int))/\w'=w:=by
 have:=Pk h n;rw[hi] at this;exact this
theorem Wh (h:jf U w rb vp vw s) {n:Int} (hi:tF s.ws n=none):Zk 132 #[Zp rb,Zi n] w λe w'=>Zr e (Zi (-1))/\w'=w:=by
 have:=NP h n;rw[hi] at this;exact this
theorem Wg (h:jf U w rb vp vw s) {n:Int} {i:Nat} (hi:tF s.ws n=some i):Zk 132 #[Zp rb,Zi n] w λe w'=>Zr e (Zi (i:Int))/\w'=w:=by
 have:=NP h n;rw[hi] at this;exact this
theorem jf.place (h:jf U w rb vp vw s) {n:Int} {i:Nat} (hi:pF s.ps n=some i):∃(hl:i<s.ps.length) (g c:Nat),vp=Zs g s.ps.length c/\P3 w g i s.ps[i]/\oM s i=s.ps[i]/\s.ps[i].num=n:=by
 obtain⟨hl,hn⟩:=JF hi;obtain⟨p,c,hv,hb⟩:=Py h.p;obtain⟨g,rfl,hg⟩:=hb i hl;exact⟨hl,g,c,hv,hg,Hq hl,hn⟩
theorem jf.waiter (h:jf U w rb vp vw s) {i:Nat} (hl:i<s.ws.length):∃(g c:Nat),vw=Zs g s.ws.length c/\W9 w g i s.ws[i]/\sW s i=s.ws[i]:=by
 obtain⟨p,c,hv,hb⟩:=JG h.l;obtain⟨g,rfl,hg⟩:=hb i hl;exact⟨g,c,hv,hg,Hq hl⟩
theorem YC (h:jf U w rb vp vw s) (tG:s.ps.length<1000000) (n:Int) (b:Bool):Zk 116 #[Zp rb,Zi n,.bool b] w λe w'=>Zr e (Zi (nX s n))/\zg U w' rb (jR s n b)/\Zn U w w':=by
 have HH:=aa h;by_cases a1:n<0
 ·have e1:nX s n=1:=if_pos a1;have e2:jR s n b=s:=if_neg (by rw[e1];decide);rw[e1,e2];clear h e1 e2;go_enter func116,ntmps116;go_wp2_with fail
  all_goals
   go_ret;exact⟨rfl,⟨_,_,HH.j⟩,ae.refl _ _⟩
 ·cases hi:pF s.ps n with
  |some i=>
   have HP:=aa (Jz h hi);have e1:nX s n=7:=by unfold nX;rw[if_neg a1,hi];rfl
   have e2:jR s n b=s:=if_neg (by rw[e1];decide);have DV:0<=(i:Int):=Zo;rw[e1,e2];clear h e1 e2 hi;go_enter func116,ntmps116;go_wp2_with fail;refine HP.j.e1 ?_;go_wp2_with fail
   all_goals
    go_ret
    exact⟨rfl,⟨_,_,HH.j⟩,ae.refl _ _⟩
  |none=>
   have HP:=aa (JA h hi);have e1:nX s n=0:=by unfold nX;rw[if_neg a1,hi];rfl
   have e2:jR s n b=⟨s.ps++[⟨n,b,0⟩],s.ws⟩:=if_pos e1;rw[e1,e2];obtain⟨q,c,oS,_⟩:=h.p.form;obtain⟨N,hN⟩:=Ze (s.ps.length);rw[<-hN] at oS;subst oS;have c0:=h.c0;have oD:Hid (s.ps.length+1<=10000000):=by show _<=_;omega
   have lD:Hid ((s.ps++[(⟨n,b,0⟩:Pc)]).length<=1000000):=by show _<=_;rw[List.length_append,List.length_singleton];omega
   clear h e1 e2 hi hN;go_enter func116,ntmps116;go_wp2_with fail;refine HP.j.e1 ?_;go_wp2_with (at_builtin;refine mg pcK _ rfl _ _ rfl 0 (.slice q N c) _ rfl HH.j.p ⟨n,b,0⟩ _ _ rfl rfl rfl oD.j (Nat.zero_le _) ?_;intro v' w8 bc aP bB;obtain⟨pz,cz,ka,_⟩:=bc.form;generalize (s.ps++[(⟨n,b,0⟩:Pc)]).length=mz at ka;subst ka;obtain⟨⟨qx,q1⟩,q2,q3,q4⟩:=HH.j.XK bc aP (uM bB) lD.j;have HF:=aa (⟨q3,q4⟩:_/\_);clear bc aP bB q3 q4)
   all_goals
    go_ret;exact⟨rfl,HF.j.1,HF.j.2⟩
theorem XZ (h:jf U w rb vp vw s) (t:Int):Zk 70 #[Zp rb,Zi t] w λe w'=>Zr e (.tuple #[Zi (nV s t),Zi (qj s t)])/\Zq w w':=by
 cases hi:tF s.ws t with
 |none=>
  have HP:=aa (Wh h hi);have e1:nV s t= -1:=by unfold nV;rw[hi]
  have e2:qj s t=0:=by unfold qj;rw[hi]
  rw[e1,e2];clear h hi e1 e2;go_enter func70,ntmps70;go_wp2_with fail;refine HP.j.e1 ?_;go_wp2_with fail;refine bodyPost_ret (v:=.tuple #[Zi (-1),Zi 0]) ?_ rfl ⟨rfl,ae.refl _ _⟩
  simp[results,results70,go_sem]
 |some i=>
  have HP:=aa (Wg h hi);obtain⟨hl,ke⟩:=I7 hi;clear ke;obtain⟨g,c,hv,hg,hw⟩:=h.waiter hl;have c1:=h.c1;rw[hv] at c1;have b0:=hg.c0;have b2:=hg.c2;obtain⟨N,hN⟩:=Ze (s.ws.length);rw[<-hN] at c1;have bf:0<=(i:Int)/\(i:Int)<(N:Int):=Zo;have G0:¬(i:Int)<0:=Zo;have e1:nV s t=s.ws[i].at':=by unfold nV;rw[hi];dsimp only;rw[hw]
  have e2:qj s t=s.ws[i].nZ:=by unfold qj;rw[hi];dsimp only;rw[hw]
  rw[e1,e2];generalize s.ws[i].at'=x0 at b0|-;generalize s.ws[i].nZ=x2 at b2|-;clear h hi e1 e2 hv hg hw hN hl;go_enter func70,ntmps70;go_wp2_with fail;refine HP.j.e1 ?_;go_wp2_with fail
  first|(go_quiet (fail);go_wp2_with fail)|skip
  refine bodyPost_ret (v:=.tuple #[Zi x0,Zi x2]) ?_ rfl ⟨rfl,by first|exact(ae.refl _ _).drewN _|exact ae.refl _ _⟩;simp[results,results70,go_sem]
theorem TJ {n:Int} (hi:pF s.ps n=none):sF s n=none:=by unfold sF;rw[hi]
theorem TK {n:Int} {i:Nat} (hi:pF s.ps n=some i) (hb:(oM s i).dj=false):sF s n=none:=by unfold sF;rw[hi];dsimp only;rw[hb];rfl
theorem Mx {n:Int} {i:Nat} (hi:pF s.ps n=some i) (hb:(oM s i).dj=true):sF s n=some i:=by unfold sF;rw[hi];dsimp only;rw[hb];rfl
theorem XY (h:jf U w rb vp vw s) (n:Int):Zk 93 #[Zp rb,Zi n] w λe w'=>Zr e (.tuple #[Zu (qh s n),Zi (qi s n)])/\Zq w w':=by
 cases hi:pF s.ps n with
 |none=>
  have HP:=aa (JA h hi);have e1:qh s n=0:=by unfold qh;rw[TJ hi]
  have e2:qi s n=6:=by unfold qi;rw[TJ hi]
  rw[e1,e2];clear h hi e1 e2;go_enter func93,ntmps93;go_wp2_with fail;refine HP.j.e1 ?_;go_wp2_with fail;refine bodyPost_ret (v:=.tuple #[Zu 0,Zi 6]) ?_ rfl ⟨rfl,ae.refl _ _⟩
  simp[results,results93,go_sem]
 |some i=>
  have HP:=aa (Jz h hi);obtain⟨hl,g,c,hv,hg,hp,wF⟩:=h.place hi;clear wF;have c0:=h.c0;rw[hv] at c0;have b1:=hg.c1;have b2:=hg.c2;obtain⟨N,hN⟩:=Ze (s.ps.length);rw[<-hN] at c0;have bf:0<=(i:Int)/\(i:Int)<(N:Int):=Zo;have G0:¬(i:Int)<0:=Zo
  cases hb:s.ps[i].dj with
  |false=>
   have e1:qh s n=0:=by unfold qh;rw[TK hi (by rw[hp];exact hb)]
   have e2:qi s n=6:=by unfold qi;rw[TK hi (by rw[hp];exact hb)]
   rw[e1,e2];rw[hb] at b1;clear h hi e1 e2 hv hg hp hN hl hb b2;go_enter func93,ntmps93;go_wp2_with fail;refine HP.j.e1 ?_;go_wp2_with fail;refine bodyPost_ret (v:=.tuple #[Zu 0,Zi 6]) ?_ rfl ⟨rfl,ae.refl _ _⟩
   simp[results,results93,go_sem]
  |true=>
   have e1:qh s n=s.ps[i].word:=by unfold qh;rw[Mx hi (by rw[hp];exact hb)];dsimp only;rw[hp]
   have e2:qi s n=0:=by unfold qi;rw[Mx hi (by rw[hp];exact hb)]
   rw[e1,e2];rw[hb] at b1;generalize s.ps[i].word=x2 at b2|-;clear h hi e1 e2 hv hg hp hN hl hb;go_enter func93,ntmps93;go_wp2_with fail;refine HP.j.e1 ?_;go_wp2_with fail
   first|(go_quiet (fail);go_wp2_with fail)|skip
   refine bodyPost_ret (v:=.tuple #[Zu x2,Zi 0]) ?_ rfl ⟨rfl,by first|exact(ae.refl _ _).drewN _|exact ae.refl _ _⟩;simp[results,results93,go_sem]
end
end Go.Proofs.YtphkconoooeidaaGreatDoor
namespace Go.Vx
def nw (ws:List Wt) (n:Int) (k:Nat):List Int:=((ws.take k).filter λx=>decide (x.at'=n)).map (·.dh)
theorem ac7 {ws:List Wt} {n:Int} {k:Nat} (hk:k<ws.length) (h:ws[k].at'=n):nw ws n (k+1)=nw ws n k++[ws[k].dh]:=by
 unfold nw;rw[List.take_succ_eq_append_getElem hk,List.filter_append,List.map_append];simp[h]
theorem ac8 {ws:List Wt} {n:Int} {k:Nat} (hk:k<ws.length) (h:ws[k].at'≠n):nw ws n (k+1)=nw ws n k:=by
 unfold nw;rw[List.take_succ_eq_append_getElem hk,List.filter_append,List.map_append];simp[h]
theorem aca (s:Bs) (n:Int):nw s.ws n s.ws.length=jS s n:=by
 unfold nw jS;rw[List.take_length]
theorem ac9 (ws:List Wt) (n:Int) (k:Nat):(nw ws n k).length<=ws.length:=by
 unfold nw;rw[List.length_map];refine Nat.le_trans (List.length_filter_le _ _) ?_;rw[List.length_take];omega
def ahj (s:Bs) (l:List Int) (k:Nat):Bs:=⟨s.ps,s.ws.filter λx=>decide (x.dh∉l.take k)⟩
end Go.Vx
namespace Go.Proofs.YtphkconoooeidaaGreatDoor
section
variable {U V S:Nat->Prop} {w w2 w3:World} {rb:Nat} {vp vw:Value} {s:Bs}
theorem adO:Kind prog cO 196 3:=kG (z:=Zi 0) (b:=8) underlying196 Zx rfl Zd
theorem ai.push {α:Type} {L:Lay α} {w w4 w5:World} {e:TypeId} {v v':Value} {xs ys:List α} (h:ai L w4 w.heap.size e v xs) (ho:Zq w w4) (h1:ai L w5 w.heap.size e v' ys) (h2:ae (λk=>v.ownBlock=some k) w4 w5):Zq w w5:=
 ho.beyond h2 (λk hk=>(cH h hk).1)
theorem YJ (h:jf U w rb vp vw s) (n:Int):Zk 91 #[Zp rb,Zi n] w λe w'=>∃v,Zr e (.tuple #[v,Zi (ry s n)])/\ai cO w' w.heap.size 3 v (oP s n)/\Zq w w':=by
 cases hi:pF s.ps n with
 |none=>
  have HP:=aa (JA h hi);have e1:ry s n=6:=by unfold ry;rw[hi]
  have e2:oP s n=[]:=by unfold oP;rw[hi]
  rw[e1,e2];clear h hi e1 e2;go_enter func91,ntmps91;go_wp2_with fail;refine HP.j.e1 ?_;go_wp2_with fail;refine bodyPost_ret (v:=.tuple #[.slice none 0 0,Zi 6]) ?_ rfl ⟨_,rfl,ai.nil _ _ _ _,ae.refl _ _⟩
  simp[results,results91,go_sem]
 |some i=>
  have HP:=aa (Jz h hi);have e1:ry s n=0:=by unfold ry;rw[hi]
  have e2:oP s n=nw s.ws n s.ws.length:=by unfold oP;rw[hi];dsimp only;rw[aca]
  rw[e1,e2];have G0:¬(i:Int)<0:=Zo;have HH:=aa h;have hn:=h.nl;obtain⟨p,c,hv,_⟩:=JG h.l;obtain⟨N,hN⟩:=Ze (s.ws.length);rw[<-hN] at hn hv|-;have HN:=aa hN;have HV:=aa hv;clear h hi e1 e2 hN hv;go_enter func91,ntmps91;go_wp2_with fail;refine HP.j.e1 ?_;go_wp2_with fail
  go_loopw [7,8] (λv d wr=>∃k:Nat,d=Zi (k:Int)/\k<=N/\Hid (ai cO wr w.heap.size 3 v (nw s.ws n k)/\Zq w wr)) (λ_ d _=>N - (RowKit.intOf d).toNat)
  case atStart=>exact⟨0,rfl,Zo,ai.nil _ _ _ _,ae.refl _ _⟩
  case round=>
   obtain⟨k,rfl,hk,HR⟩:=hrel;have c1:=(HH.j.quiet HR.j.2).c1;rw[HV.j] at c1;obtain⟨pv,cv,iA,_⟩:=HR.j.1.form;obtain⟨m,hm⟩:=Ze ((nw s.ws n k).length);rw[<-hm] at iA;subst iA;by_cases ah:k<N
   ·have bq:k<s.ws.length:=by have:=HN.j;omega
    have h1:(k:Int)<(N:Int):=Zo;have bf:0<=(k:Int)/\(k:Int)<(N:Int):=Zo;have iY:=Zf k Zo;obtain⟨g,c',wg,hg,_⟩:=(HH.j.quiet HR.j.2).waiter bq;rw[HV.j] at wg;simp only[Value.slice.injEq] at wg;obtain⟨rH,_,_⟩:=wg;subst rH;have b0:=hg.c0;have b1:=hg.c1;by_cases he:s.ws[k].at'=n
    ·have HY:Hid (nw s.ws n (k+1)=nw s.ws n k++[s.ws[k].dh]):=ac7 bq he;rw[he] at b0;generalize s.ws[k].dh=y at b1 HY
     have oD:Hid ((nw s.ws n k).length+1<=10000000):=by
      have:=ac9 s.ws n k;have:=HN.j;show _<=_;omega
     have kC:Hid (w.heap.size<=wr.heap.size):=HR.j.2.size;clear hg he ah hm;go_wp2_with (at_builtin;refine mg adO _ rfl _ _ rfl w.heap.size (.slice pv m cv) _ rfl HR.j.1 y _ _ rfl rfl rfl oD.j kC.j ?_;intro v' w5 bc aP bB;have aG:=aa (⟨bc,ai.push HR.j.1 HR.j.2 bc aP⟩:_/\_);obtain⟨p',c'',wg,_⟩:=bc.form;clear bc aP bB wg);go_roundw
     case rel=>exact⟨k+1,by go_num,Zo,by rw[HY.j];exact aG⟩
     case measure=>exact Zm
    ·have HY:Hid (nw s.ws n (k+1)=nw s.ws n k):=ac8 bq he;have gm:(s.ws[k].at'==n)=false:=by simpa using he
     clear hg b1;generalize s.ws[k].at'=y at b0 he gm;clear ah hm;go_wp2_with fail;go_roundw
     case rel=>exact⟨k+1,by go_num,Zo,by rw[HY.j];exact HR⟩
     case measure=>exact Zm
   ·obtain rfl:k=N:=Zo;have h1:¬(k:Int)<(k:Int):=Zo;clear ah hm;go_wp2_with fail;refine bodyPost_ret (v:=.tuple #[.slice pv m cv,Zi 0]) ?_ rfl ⟨_,rfl,HR.j.1,HR.j.2⟩;simp[results,results91,go_sem]
end
end Go.Proofs.YtphkconoooeidaaGreatDoor

import Derived.Test.YtphkconoooeidaaGreatDoorCp11
import Derived.Test.YtphkconoooeidaaGreatDoorCp13
import Derived.LaidEqlPtr
import Derived.Lib.SliceRun
import Derived.Shelf.SlicesE.Delete
set_option maxRecDepth 100000
set_option maxHeartbeats 8000000
set_option linter.unusedVariables false
set_option linter.unusedSimpArgs false
open Go Go.Vx Go.Proofs.Tryz Go.ChangeShapes Go.WideShapes Go.ChangeAt Go.RowKit
namespace Go.Proofs.YtphkconoooeidaaGreatDoor
section
variable {U V S:Nat->Prop} {w w2:World} {mb n:Nat} {D:DataW Value} {ks:List Int} {G G2:Int->Nat}
structure lB (w:World) (mb:Nat) (D:DataW Value) (ks:List Int) (G:Int->Nat):Prop where
 own:w.ownsMap prog 3 RP mb ks.length D
 has:∀k,aj k->(Maps.has D (.int .i64 k)=true↔k∈ks)
 val:∀k∈ks,∀z,D.atKey (.int .i64 k) z=.held (.pointer (some ⟨G k,0,none⟩))
 nd:ks.Nodup
 ix:∀k∈ks,aj k
def xW (G:Int->Nat) (ks:List Int) (k:Int):Value:=if k∈ks then .pointer (some ⟨G k,0,none⟩) else .pointer none
theorem lB.look (h:lB w mb D ks G) {t e:TypeId} (ht:prog.underlying t=some (.map 3 e)) (hz:∀w,(zeroValue e).run prog w=.ok (.pointer none) w) (k:Int) (hk:aj k):
  (Instr.lookup t (.map (some mb)) (.int .i64 k) false).run prog w=.ok (xW G ks k) w:=by
 have uQ:RP (.pointer none)=some (.held (.pointer none),[]):=rfl;obtain⟨v,ps,hr,hv⟩:=h.own.lookup (t:=t) (e:=e) oO ht (hz w) uQ (xZ hk)
 have hD:D.atKey (.int .i64 k) (.held (.pointer none))=.held (xW G ks k):=by
  unfold xW;by_cases hs:k∈ks
  ·rw[if_pos hs];exact h.val k hs _
  ·rw[if_neg hs]
   exact Maps.atKey_of_not_has (by
    cases hh:Maps.has D (.int .i64 k) with
    |false=>rfl
    |true=>exact absurd ((h.has k hk).1 hh) hs) _
 rw[hD] at hv;obtain⟨p,rfl,he⟩:=Jl hv;simp only[Prod.mk.injEq,DataW.held.injEq] at he;rw[hr,he.1]
theorem lB.keep (h:lB w mb D ks G) (ho:ae S w w2) (hb:¬S mb):lB w2 mb D ks G:=⟨zU h.own ho hb,h.has,h.val,h.nd,h.ix⟩
theorem lB.ne (h:lB w mb D ks G) {j:Nat} {c:Array Value} {t:TypeId} {fr:Nat×Nat} (hj:w.heap[j]?=some (.cells c t fr)):j≠mb:=xV hj h.own
theorem lB.made (w:World) (G:Int->Nat):lB (w.alloc (.map #[] 0)) w.heap.size (.map []) [] G:=
 ⟨World.ownsMap_made w prog 3 RP,λk hk=>⟨λh=>by simp[Maps.has_eq] at h,λh=>(by cases h)⟩,λk hk=>(by cases hk),List.nodup_nil,λk hk=>(by cases hk)⟩
theorem lB.put (h:lB w mb D ks G) {t e:TypeId} (ht:prog.underlying t=some (.map 3 e)) (hl:ks.length<maxLen) (n:Int) (hn:aj n) (eH:n∉ks) (g:Nat):
  ∃w3,(Instr.mapUpdate t (.map (some mb)) (.int .i64 n) (Zp g)).run prog w=.ok () w3/\lB w3 mb (D.put (.int .i64 n) (.held (Zp g))) (ks++[n]) (pK G n g)/\ae (λj=>j=mb) w w3:=by
 obtain⟨w3,aM,nD,wL⟩:=h.own.update (t:=t) (e:=e) oO ht hl (xZ hn) (val:=Zp g) (d:=.held (Zp g)) (ps:=[]) rfl;have cu:∀k∈ks,k≠n:=λk hk e=>eH (e▸hk)
 have gZ:(ks++[n]).Nodup:=by
  rw[List.nodup_append];refine⟨h.nd,by simp,λa ha b hb=>?_⟩;rw[List.mem_singleton] at hb;rw[hb];exact cu a ha
 have G8:∀k∈ks++[n],aj k:=λk hk=>by
  rcases List.mem_append.1 hk with hk|hk
  ·exact h.ix k hk
  ·rw[List.mem_singleton] at hk;rw[hk];exact hn
 have Lg:∀k,aj k->(Maps.has (D.put (.int .i64 n) (.held (Zp g))) (.int .i64 k)=true↔k∈ks++[n]):=λk hk=>by
  rw[List.mem_append];by_cases he:k=n
  ·subst he;rw[Maps.has_put_same h.own.isMap (Gj hn)];simp
  ·rw[Maps.has_put_other (Gu he),h.has k hk];simp[he]
 refine⟨w3,aM,⟨?_,Lg,λk hk z=>?_,gZ,G8⟩,PT wL⟩
 ·have tH:=JU (ks:=ks++[n]) nD (λk jn hh=>(Lg k jn).1 hh) (λk bE=>(Lg k (G8 k bE)).2 bE) gZ;have:=PR nD;rw[tH.2] at this;exact this
 ·rcases List.mem_append.1 hk with hk|hk
  ·rw[Maps.atKey_put_other (Gu (cu k hk)),vP G g (cu k hk)];exact h.val k hk z
  ·rw[List.mem_singleton] at hk;subst hk;rw[zQ];exact Maps.atKey_put_same h.own.isMap (Gj hn) _ z
end
section
variable {U V S:Nat->Prop} {w w2:World} {qb c g:Nat} {v:Value} {gs:List Nat} {cur:Array Value} {T0:TypeId}
theorem Qk (w:World):(zeroValue 324).run prog w=.ok (.pointer none) w:=Zx
structure aht (w:World) (qb c:Nat) (cur:Array Value) (T0:TypeId) (v:Value) (gs:List Nat):Prop where
 b:w.heap[qb]?=some (.cells cur T0 (0,0))
 c':cur[c]?=some v
 o:ai qu w 0 324 v gs
 ne:∀k,v.ownBlock=some k->k≠qb
 n:gs.length<10000000
def IqT (w:World) (qb c:Nat) (cur:Array Value) (T0:TypeId) (v:Value) (gs:List Nat) (w':World):Prop:=∃v',ai qu w' 0 324 v' gs/\w'.heap[qb]?=some (.cells (cur.setIfInBounds c v') T0 (0,0))/\ae (λk=>k=qb\/v.ownBlock=some k) w w'/\∀k,v'.ownBlock=some k->v.ownBlock=some k\/w.heap.size<=k
end
section
variable {U V S:Nat->Prop} {w w2:World} {qb c g:Nat} {v:Value} {gs:List Nat} {cur:Array Value} {T0:TypeId}
theorem ado {N cap:Nat} (h:ai qu w 0 324 (Zs g N cap) gs) (k:Nat) (hk:k<gs.length):w.cell? ⟨g,k,none⟩=some (.pointer (some ⟨gs[k],0,none⟩)):=by
 have:=h.cell k 0 hk Zd;have e:qu.sz=1:=rfl;rw[e,Nat.mul_one,Nat.add_zero] at this;exact this
end
section
theorem Qo (w:World):(zeroValue 338).run prog w=.ok (.pointer none) w:=Zx
def Bo (x:Wt):Array Value:=#[Zi x.dh,Zi x.at',Zi x.nZ,Zu x.m.zY,Zu x.m.w0,Zu x.m.w1,Zu x.m.w2,Zu x.m.w3,Zu x.m.jW]
def vV (p:Pc) (v:Value):Array Value:=#[.bool p.dj,Zu p.word,v]
structure gS (U:Nat->Prop) (w:World) (xb mp mw:Nat) (DP DW:DataW Value) (GP GW:Int->Nat) (Q:Int->Value) (s:Bs):Prop where
 x:w.heap[xb]?=some (.cells #[.map (some mp),.map (some mw)] 256 (0,0))
 pm:lB w mp DP (s.ps.map (·.num)) GP
 wm:lB w mw DW (s.ws.map (·.dh)) GW
 mn:mp≠mw
 pb:∀p∈s.ps,w.heap[GP p.num]?=some (.cells (vV p (Q p.num)) 345 (0,0))
 wb:∀x∈s.ws,w.heap[GW x.dh]?=some (.cells (Bo x) 326 (0,0))
 gp:∀p∈s.ps,∀q∈s.ps,GP p.num=GP q.num->p.num=q.num
 gw:∀x∈s.ws,∀y∈s.ws,GW x.dh=GW y.dh->x.dh=y.dh
 qs:∀p∈s.ps,ai qu w 0 324 (Q p.num) ((jS s p.num).map GW)
 qd:∀p∈s.ps,∀q∈s.ps,∀k,(Q p.num).ownBlock=some k->(Q q.num).ownBlock=some k->p.num=q.num
 ux:¬U xb
 u1:¬U mp
 u2:¬U mw
 up:∀p∈s.ps,¬U (GP p.num)
 uw:∀x∈s.ws,¬U (GW x.dh)
 uq:∀p∈s.ps,∀k,(Q p.num).ownBlock=some k->¬U k
 low:∀k,U k->k<w.heap.size
 np:s.ps.length<=1000000
 nl:s.ws.length<=1000000
variable {U V S:Nat->Prop} {w w2:World} {xb mp mw:Nat} {DP DW:DataW Value} {GP GW:Int->Nat} {Q:Int->Value} {s:Bs}
theorem gS.aside (h:gS U w xb mp mw DP DW GP GW Q s) (ho:ae S w w2) (s1:¬S xb) (s2:¬S mp) (s3:¬S mw) (s4:∀p∈s.ps,¬S (GP p.num)) (s5:∀x∈s.ws,¬S (GW x.dh)) (s6:∀p∈s.ps,∀k,(Q p.num).ownBlock=some k->¬S k)
  (v1:¬V xb) (v2:¬V mp) (v3:¬V mw) (v4:∀p∈s.ps,¬V (GP p.num)) (v5:∀x∈s.ws,¬V (GW x.dh)) (v6:∀p∈s.ps,∀k,(Q p.num).ownBlock=some k->¬V k) (vl:∀k,V k->k<w2.heap.size):gS V w2 xb mp mw DP DW GP GW Q s:=
 ⟨ae.keep ho h.x s1,h.pm.keep ho s2,h.wm.keep ho s3,h.mn,λp hp=>ae.keep ho (h.pb p hp) (s4 p hp),λx hx=>ae.keep ho (h.wb x hx) (s5 x hx),h.gp,h.gw,λp hp=>(h.qs p hp).kept ho (λk hk=>s6 p hp k hk),h.qd,v1,v2,v3,v4,v5,v6,vl,h.np,h.nl⟩
theorem gS.step (h:gS U w xb mp mw DP DW GP GW Q s) (ho:ae S w w2) (hS:∀k,k<w.heap.size->S k->U k) (hV:∀k,V k->U k\/(w.heap.size<=k/\k<w2.heap.size)):gS V w2 xb mp mw DP DW GP GW Q s:=by
 have l1:=au h.x;have l2:=h.pm.own.lt;have l3:=h.wm.own.lt;have l4:∀p∈s.ps,GP p.num<w.heap.size:=λp hp=>au (h.pb p hp)
 have l5:∀x∈s.ws,GW x.dh<w.heap.size:=λx hx=>au (h.wb x hx)
 have l6:∀p∈s.ps,∀k,(Q p.num).ownBlock=some k->k<w.heap.size:=λp hp k hk=>(cH (h.qs p hp) hk).2
 have hv:∀k,k<w.heap.size->¬U k->¬V k:=λk hk hu hv=>by
  rcases hV k hv with h3|h3
  ·exact hu h3
  ·omega
 exact h.aside ho (λs=>h.ux (hS _ l1 s)) (λs=>h.u1 (hS _ l2 s)) (λs=>h.u2 (hS _ l3 s)) (λp hp s=>h.up p hp (hS _ (l4 p hp) s)) (λx hx s=>h.uw x hx (hS _ (l5 x hx) s)) (λp hp k hk s=>h.uq p hp k hk (hS _ (l6 p hp k hk) s))
  (hv _ l1 h.ux) (hv _ l2 h.u1) (hv _ l3 h.u2) (λp hp=>hv _ (l4 p hp) (h.up p hp)) (λx hx=>hv _ (l5 x hx) (h.uw x hx)) (λp hp k hk=>hv _ (l6 p hp k hk) (h.uq p hp k hk)) (λk hk=>by
  rcases hV k hk with h3|h3
  ·exact Nat.lt_of_lt_of_le (h.low k h3) ho.size
  ·exact h3.2)
theorem gS.quiet (h:gS U w xb mp mw DP DW GP GW Q s) (ho:Zq w w2):gS U w2 xb mp mw DP DW GP GW Q s:=h.step ho (λ_ _ h=>h.elim) (λ_ h=>Or.inl h)
def qO (U:Nat->Prop) (w:World) (xb:Nat) (s:Bs):Prop:=sU s/\∃mp mw DP DW GP GW Q,gS U w xb mp mw DP DW GP GW Q s
theorem qO.step (h:qO U w xb s) (ho:ae S w w2) (hS:∀k,k<w.heap.size->S k->U k) (hV:∀k,V k->U k\/(w.heap.size<=k/\k<w2.heap.size)):qO V w2 xb s:=by
 obtain⟨hb,mp,mw,DP,DW,GP,GW,Q,h⟩:=h;exact⟨hb,mp,mw,DP,DW,GP,GW,Q,h.step ho hS hV⟩
theorem gS.c0 (h:gS U w xb mp mw DP DW GP GW Q s):w.cell? ⟨xb,0,none⟩=some (.map (some mp)):=Zl h.x
theorem gS.c1 (h:gS U w xb mp mw DP DW GP GW Q s):w.cell? ⟨xb,1,none⟩=some (.map (some mw)):=Zl h.x
theorem Ga {ps:List Pc} {n:Int}:(∃i,pF ps n=some i)↔n∈ps.map (·.num):=by
 constructor
 ·rintro⟨i,hi⟩;obtain⟨hl,hE⟩:=JF hi;exact List.mem_map.2 ⟨_,List.getElem_mem hl,hE⟩
 ·intro h;obtain⟨e,he,rfl⟩:=List.mem_map.1 h
  cases hi:pF ps e.num with
  |some i=>exact⟨i,rfl⟩
  |none=>have:=mu hi e he;simp at this
theorem Of {ws:List Wt} {t:Int}:(∃i,tF ws t=some i)↔t∈ws.map (·.dh):=by
 constructor
 ·rintro⟨i,hi⟩;obtain⟨hl,hE⟩:=I7 hi;exact List.mem_map.2 ⟨_,List.getElem_mem hl,hE⟩
 ·intro h;obtain⟨e,he,rfl⟩:=List.mem_map.1 h
  cases hi:tF ws e.dh with
  |some i=>exact⟨i,rfl⟩
  |none=>have:=mu hi e he;simp at this
theorem gS.J2 (h:gS U w xb mp mw DP DW GP GW Q s) {n:Int} {i:Nat} (hi:pF s.ps n=some i) (hn:aj n):(Instr.lookup 253 (.map (some mp)) (Zi n) false).run prog w=.ok (.pointer (some ⟨GP n,0,none⟩)) w:=by
 have:=h.pm.look (t:=253) (e:=338) underlying253 Qo n hn;unfold xW at this;rw[if_pos (Ga.1 ⟨i,hi⟩)] at this;exact this
theorem gS.J3 (h:gS U w xb mp mw DP DW GP GW Q s) {n:Int} (hi:pF s.ps n=none) (hn:aj n):(Instr.lookup 253 (.map (some mp)) (Zi n) false).run prog w=.ok (.pointer none) w:=by
 have:=h.pm.look (t:=253) (e:=338) underlying253 Qo n hn;unfold xW at this;rw[if_neg (λh9=>by obtain⟨i,h8⟩:=Ga.2 h9;rw[hi] at h8;cases h8)] at this;exact this
theorem gS.ac1 (h:gS U w xb mp mw DP DW GP GW Q s) {n:Int} {i:Nat} (hi:tF s.ws n=some i) (hn:aj n):(Instr.lookup 254 (.map (some mw)) (Zi n) false).run prog w=.ok (.pointer (some ⟨GW n,0,none⟩)) w:=by
 have:=h.wm.look (t:=254) (e:=324) underlying254 Qk n hn;unfold xW at this;rw[if_pos (Of.1 ⟨i,hi⟩)] at this;exact this
theorem gS.ac2 (h:gS U w xb mp mw DP DW GP GW Q s) {n:Int} (hi:tF s.ws n=none) (hn:aj n):(Instr.lookup 254 (.map (some mw)) (Zi n) false).run prog w=.ok (.pointer none) w:=by
 have:=h.wm.look (t:=254) (e:=324) underlying254 Qk n hn;unfold xW at this;rw[if_neg (λh9=>by obtain⟨i,h8⟩:=Of.2 h9;rw[hi] at h8;cases h8)] at this;exact this
structure L3 (w:World) (g:Nat) (p:Pc) (v:Value):Prop where
 c0:w.cell? ⟨g,0,none⟩=some (.bool p.dj)
 c1:w.cell? ⟨g,1,none⟩=some (Zu p.word)
 c2:w.cell? ⟨g,2,none⟩=some v
 fz:∀j,w.frozen? ⟨g,j,none⟩=false
theorem Qh {g:Nat} {p:Pc} {v:Value} (h:w.heap[g]?=some (.cells (vV p v) 345 (0,0))):L3 w g p v:=
 ⟨Zl h,Zl h,Zl h,λj=>by simp[World.frozen?,h]⟩
structure V9 (w:World) (g:Nat) (x:Wt):Prop where
 c0:w.cell? ⟨g,0,none⟩=some (Zi x.dh)
 c1:w.cell? ⟨g,1,none⟩=some (Zi x.at')
 c2:w.cell? ⟨g,2,none⟩=some (Zi x.nZ)
 c3:w.cell? ⟨g,3,none⟩=some (Zu x.m.zY)
 c4:w.cell? ⟨g,4,none⟩=some (Zu x.m.w0)
 c5:w.cell? ⟨g,5,none⟩=some (Zu x.m.w1)
 c6:w.cell? ⟨g,6,none⟩=some (Zu x.m.w2)
 c7:w.cell? ⟨g,7,none⟩=some (Zu x.m.w3)
 c8:w.cell? ⟨g,8,none⟩=some (Zu x.m.jW)
 fz:∀j,w.frozen? ⟨g,j,none⟩=false
theorem NV {g:Nat} {x:Wt} (h:w.heap[g]?=some (.cells (Bo x) 326 (0,0))):V9 w g x:=
 ⟨Zl h,Zl h,Zl h,Zl h,Zl h,Zl h,Zl h,Zl h,Zl h,λj=>by simp[World.frozen?,h]⟩
theorem gS.place (h:gS U w xb mp mw DP DW GP GW Q s) {n:Int} {i:Nat} (hi:pF s.ps n=some i):∃hl:i<s.ps.length,s.ps[i].num=n/\oM s i=s.ps[i]/\w.heap[GP n]?=some (.cells (vV s.ps[i] (Q n)) 345 (0,0))/\L3 w (GP n) s.ps[i] (Q n)/\s.ps[i]∈s.ps:=by
 obtain⟨hl,hn⟩:=JF hi;have hb:=h.pb _ (List.getElem_mem hl);rw[hn] at hb;exact⟨hl,hn,Hq hl,hb,Qh hb,List.getElem_mem hl⟩
theorem gS.waiter (h:gS U w xb mp mw DP DW GP GW Q s) {n:Int} {i:Nat} (hi:tF s.ws n=some i):∃hl:i<s.ws.length,s.ws[i].dh=n/\sW s i=s.ws[i]/\w.heap[GW n]?=some (.cells (Bo s.ws[i]) 326 (0,0))/\V9 w (GW n) s.ws[i]/\s.ws[i]∈s.ws:=by
 obtain⟨hl,hn⟩:=I7 hi;have hb:=h.wb _ (List.getElem_mem hl);rw[hn] at hb;exact⟨hl,hn,Hq hl,hb,NV hb,List.getElem_mem hl⟩
end
end Go.Proofs.YtphkconoooeidaaGreatDoor

import Derived.Test.YtdjlkahbpdoemaaGreatDoorCq25
import Derived.Test.YtdjlkahbpdoemaaGreatDoorCards
import Derived.Test.YtdjlkahbpdoemaaGreatDoorTie
import Derived.ChangeMaps5
import Derived.Deep.SlicePairs
import Derived.Deep.Slices
import Derived.Deep.Strs
import Derived.HandedShaped
import Derived.LaidMore
import Derived.SevenTiedAt
import Derived.SizedLaws
import Derived.Stop.Joined
set_option maxRecDepth 100000
set_option maxHeartbeats 8000000
set_option linter.unusedVariables false
set_option linter.unusedSimpArgs false
open Go Go.Vx Go.Proofs.Tryz Go.ChangeShapes Go.WideShapes Go.ChangeAt Go.RowKit
variable {fs:Array Field}{cs:Array Value}{a:Assume}{again apart fresh handsOn held:Bool}{C:Checked}{fn:Func}{q:List MemPlace}{conds:List PathCond}{l:List Value}{fuel n o:Nat}{sp:Nat->Bool}{os:Os}{P:Program}{aa:Type}{e t:TypeId}{enc:TypeId×Value->Unit}{X:World->Array Value->Prop}{v v0 v1:Z3}
namespace Go.Proofs.YtdjlkahbpdoemaaGreatDoor
section
open Go.Deep
theorem own:ownKnob prog.godebug=none:=Zx
theorem laidOut:laidOutB prog=true:=Zx
theorem Tw:prog.cellsOf 3=1:=Zx
end
section
variable {enc:TypeId×Value->aa}{W:Z0}{base:Nat}{spare:Nat->Bool}{cs:List Value}{x:DataW aa×List MemPlace}
open Go.Deep
theorem fld(hu:P.underlying t=some (.struct fs))(h:DataW.trod enc P W base spare held fuel t cs=some x)(i:Nat){f:Field}(hf:fs[i]?=some f):
  ∃n y ps,DataW.trod enc P W base spare held n f.type ((cs.drop f.offset).take (P.cellsOf f.type))=some y/\x.1=.agg ps/\ps[i]?=some y.1:=by
 obtain⟨xs,n,_,rfl,_,a,b⟩:=DataW.trod_struct hu h;have hi:i<xs.length:=by rw[a];exact(Array.getElem?_eq_some_iff.1 hf).1
 have h1:=b i f hf;rw[List.getElem?_eq_getElem hi] at h1;exact⟨n,xs[i],xs.map (·.1),h1,rfl,by rw[List.getElem?_map,List.getElem?_eq_getElem hi];rfl⟩
end
section
variable {cs:List Value}
open Go.Deep
theorem ao8{j:Nat}(h:((cs.drop o).take n)[j]?=some v):cs[o+j]?=some v:=by
 rw[List.getElem?_take] at h;split at h
 ·rwa[List.getElem?_drop] at h
 cases h
end
section
variable {enc:TypeId×Value->aa}{W:Z0}{base:Nat}{spare:Nat->Bool}{cs:List Value}{x:DataW aa×List MemPlace}
open Go.Deep
theorem aaN(hu:P.underlying t=some (.struct fs))(h:DataW.trod enc P W base spare held fuel t cs=some x)(i:Nat){f:Field}(hf:fs[i]?=some f){k:IntKind}(hk:P.underlying f.type=some (.int k)):
  ∃z,cs[f.offset]?=some (.int k z)/\(Lit.int k z).wf=true:=by
 have⟨n,y,ps,h1,_⟩:=fld hu h i hf;have⟨z,a,_,b⟩:=DataW.trod_int hk h1;refine⟨z,?_,b⟩;have:=ao8 (cs:=cs) (o:=f.offset) (n:=P.cellsOf f.type) (j:=0) (v:=.int k z) (by rw[a];rfl);simpa using this
end
section
open Go.Deep
theorem UY:∀{ds:List (DataW aa)} {d:DataW aa},d∈ds->∀n∈d.weights P e,n∈DataW.weightsAll P e ds
 |c::r,d,a,n,hn=>by
  simp only[DataW.weightsAll,List.mem_append];rcases List.mem_cons.1 a with rfl|a
  ·exact Or.inl hn
  exact Or.inr (UY a n hn)
end
section
variable {cs:List Value}
open Go.Deep
theorem anF(b:cs.length=l.length)(h:∀j,j<l.length->cs[j]?=l[j]?):cs=l:=by
 refine List.ext_getElem? (λj=>?_);by_cases a:j<l.length
 ·exact h j a
 rw[List.getElem?_eq_none Z,List.getElem?_eq_none Z]
end
section
variable {enc:TypeId×Value->aa}{W:Z0}{cs:List Value}{x:DataW aa×List MemPlace}
open Go.Deep
theorem open_row{α:Type} [Inhabited α] (L:Lay α) (Ok:α->DataW aa->Prop) (hu:P.underlying t=some (.slice e)) (s:P.cellsOf e=L.sz)
  (u:∀(n:Nat) (c:List Value) (y:DataW aa×List MemPlace),c.length=L.sz->DataW.trod enc P W 0 (λ_=>true) held n e c=some y->∃z:α,Ok z y.1/\c=L.cf z)
  (h:DataW.trod enc P W 0 (λ_=>true) held fuel t cs=some x):
  ∃v b,cs=[v]/\jZ L W v b/\(∀(i:Nat) (hi:i<b.length),∃d,Ok b[i] d/\∀n∈d.weights P e,n∈x.1.weights P t)/\(0<b.length->∃m,b.length<=m/\m*P.bytesOf e∈x.1.weights P t):=by
 rcases open_slice hu h with⟨rfl,rfl⟩|⟨a,len,cap,m,n,D,Pl,rfl,_,w,hm,o,p,A⟩
 ·exact⟨_,[],rfl,⟨none,0,rfl,⟨Nat.le_refl _,I⟩,λk hk=>absurd hk (Nat.not_lt_zero _)⟩,λi hi=>absurd hi (Nat.not_lt_zero _),λh=>absurd h (Nat.not_lt_zero _)⟩
 simp only[if_true] at o;subst o;have each:∀i,i<m->∃z:α,Ok z (D i)/\∀j,j<L.sz->W.cell? ((a.add (i*L.sz)).add j)=(L.cf z)[j]?:=by
  intro i hi;have⟨R,h1,B⟩:=A i hi;rw[s] at h1;have⟨_,hlen,C⟩:=World.cells?_some h1;obtain⟨z,F,rfl⟩:=u _ _ _ hlen B;exact⟨z,F,C⟩
 have⟨q,g⟩:=choose_lt each;refine⟨_,(List.range len).map q,rfl,⟨some a,m,by simp,⟨by simpa using w,hm⟩,λk hk=>?_⟩,λi hi=>?_,λf=>?_⟩
 ·have S:k<len:=by simpa using hk
  have⟨G,K,sp⟩:=a;have hp:=L.pos;have f:=(g 0 Z).2 0 hp;rw[List.getElem?_eq_getElem (show 0<(L.cf (q 0)).length by rw[L.len];exact hp)] at f;have l:sp=none:=by simpa[Addr.add] using World.cell?_spot f
  subst l;simp only[addr_add] at f;refine⟨G,K,rfl,World.block_lt_of_cell? W _ f,λj N=>?_⟩;have r:=(g k Z).2 j N;simp only[addr_add] at r;simp only[List.getElem_map,List.getElem_range];exact r
 ·have Q:i<len:=by simpa using hi
  refine⟨D i,?_,λn hn=>?_⟩
  ·simp only[List.getElem_map,List.getElem_range];exact(g i Z).1
  rw[p];simp only[DataW.weights,hu,List.mem_cons,List.mem_append];exact Or.inr (Or.inl (UY (List.mem_map.2 ⟨i,List.mem_range.2 Q,rfl⟩) n hn))
 refine⟨len+(m - len),by simp,?_⟩;rw[p];simp only[DataW.weights,hu,List.mem_cons,List.length_map,List.length_range];exact Or.inl trivial
end
section
open Go.Deep
theorem aaD : prog.globalNamed "vault/mmu.uses" = some 6 := Zx
theorem aeN:(prog.globals[6]?).map (·.type)=some 446:=Zx
theorem aoD:prog.cellsOf 445=3:=Zx
theorem aoE:prog.cellsOf 27=1:=Zx
theorem adx:(Rows.laid_vault_mmu_uses:DataW Unit)=.agg ((List.range 3).map λi=>.agg [.lit (.int .u32 (DG i:Nat)),.lit (.int .i64 (Dy i:Nat)),.lit (.int .i64 (AL i:Nat))]):=Zx
theorem ady{W:Z0}{base:Nat}(h:DataW.trod enc prog W base sp held fuel 446 cs.toList=some (Rows.laid_vault_mmu_uses,q))(i)(hi:i<3):
  cs[i*3]?=some (.int .u32 (DG i:Nat))/\cs[i*3+1]?=some (.int .i64 (Dy i:Nat))/\cs[i*3+2]?=some (.int .i64 (AL i:Nat)):=by
 have⟨xs,m,_,e,_,hlen,j⟩:=DataW.trod_array underlying446 h;rw[adx] at e;simp only[Prod.mk.injEq,DataW.agg.injEq] at e;have hy:=j i hi;have d:(xs.map (·.1))[i]?=some (.agg [.lit (.int .u32 (DG i:Nat)),.lit (.int .i64 (Dy i:Nat)),.lit (.int .i64 (AL i:Nat))]):=by
  rw[<-e.1,List.getElem?_map,List.getElem?_range hi];rfl
 rw[List.getElem?_map] at d;rw[List.getElem?_eq_getElem Z] at hy d;simp only[Option.map_some,Option.some.injEq] at d;generalize xs[i]=y at hy d;rw[aoD] at hy;have⟨r,s,t,n,k,_,f,e1,g⟩:=trod_struct3 underlying445 hy;subst k;simp only[DataW.agg.injEq,List.cons.injEq,and_true] at d;have⟨d0,d1,d2⟩:=d;simp only[aoE,Tw] at f e1 g;obtain⟨a,l,rfl,_⟩:=DataW.trod_int underlying27 f;obtain⟨b,o,rfl,_⟩:=DataW.trod_int underlying3 e1;obtain⟨c,p,rfl,_⟩:=DataW.trod_int underlying3 g;simp only[DataW.lit.injEq,Lit.int.injEq,true_and] at d0 d1 d2;subst d0 d1 d2;refine⟨?_,?_,?_⟩
 ·have:=congrArg (·[0]?) l;simpa[List.getElem?_take,List.getElem?_drop] using this
 ·have:=congrArg (·[0]?) o;simpa[List.getElem?_take,List.getElem?_drop] using this
 have:=congrArg (·[0]?) p;simpa[List.getElem?_take,List.getElem?_drop] using this
end
section
open Go.Vx (kindOf oR kinds forms)
theorem aaF : prog.globalNamed "vault/isa.forms" = some 3 := Zx
theorem aeP:(prog.globals[3]?).map (·.type)=some 415:=Zx
theorem c39:prog.cellsOf 414=2:=Zx
theorem c37:prog.cellsOf 412=1:=Zx
theorem c22:prog.cellsOf 27=1:=Zx
theorem ani:(Rows.laid_vault_isa_forms:DataW Unit)=.agg ((List.range 49).map λi=>.agg [.lit (.int .i64 (kinds.getD i 0:Nat)),.lit (.int .u32 (forms.getD i 0:Nat))]):=Zx
theorem anj{W:Z0}{base:Nat}(h:DataW.trod enc prog W base sp held fuel 415 cs.toList=some (Rows.laid_vault_isa_forms,q))(i)(hi:i<49):
  cs[i*2]?=some (.int .i64 (kinds.getD i 0:Nat))/\cs[i*2+1]?=some (.int .u32 (forms.getD i 0:Nat)):=by
 have⟨xs,m,_,d,_,hlen,f⟩:=DataW.trod_array underlying415 h;rw[ani] at d;simp only[Prod.mk.injEq,DataW.agg.injEq] at d;have hy:=f i hi;have c:(xs.map (·.1))[i]?=some (.agg [.lit (.int .i64 (kinds.getD i 0:Nat)),.lit (.int .u32 (forms.getD i 0:Nat))]):=by
  rw[<-d.1,List.getElem?_map,List.getElem?_range hi];rfl
 rw[List.getElem?_map] at c;rw[List.getElem?_eq_getElem Z] at hy c;simp only[Option.map_some,Option.some.injEq] at c;generalize xs[i]=y at hy c;rw[c39] at hy;have⟨l,o,n,g,_,e,e1⟩:=trod_struct2 underlying414 hy;subst g;simp only[DataW.agg.injEq,List.cons.injEq,and_true] at c;have⟨d0,d1⟩:=c;simp only[c37,c22] at e e1;obtain⟨a,j,rfl,_⟩:=DataW.trod_int underlying412 e;obtain⟨b,k,rfl,_⟩:=DataW.trod_int underlying27 e1;simp only[DataW.lit.injEq,Lit.int.injEq,true_and] at d0 d1;subst d0 d1;constructor
 ·have:=congrArg (·[0]?) j;simpa[List.getElem?_take,List.getElem?_drop] using this
 have:=congrArg (·[0]?) k;simpa[List.getElem?_take,List.getElem?_drop] using this
theorem ank{W : Z0}(hv : W.var? prog "vault/isa.forms" = some cs)(h:∀i,i<49->cs[i*2]?=some (.int .i64 (kinds.getD i 0:Nat))/\cs[i*2+1]?=some (.int .u32 (forms.getD i 0:Nat))):dX W:=by
 have a:=World.var?_cell aaF hv;refine⟨?_,λop d h1=>?_⟩
 ·have h1:=(h 0 Z).1;have c:=a 0;rw[show cs[0]?=some (.int .i64 (kinds.getD 0 0:Nat)) from h1] at c;rcases Nat.lt_or_ge 3 W.heap.size with b|b
  ·exact b
  have:W.heap[3]?=none:=Array.getElem?_eq_none b;simp[World.cell?,this] at c
 rw[a,a];exact h op.toNat Z
end
section
open Go.Deep
theorem aaE : prog.globalNamed "vault/hart.misaligned" = some 2 := Zx
theorem aeO:(prog.globals[2]?).map (·.type)=some 23:=Zx
theorem aj8:(Rows.laid_vault_hart_misaligned:DataW Unit)=.agg ((List.range 3).map λi=>.lit (.int .i64 (FJ i:Nat))):=Zx
theorem aj9{W:Z0}{base:Nat}(h:DataW.trod enc prog W base sp held fuel 23 cs.toList=some (Rows.laid_vault_hart_misaligned,q))(i)(hi:i<3):
  cs[i]?=some (.int .i64 (FJ i:Nat)):=by
 have⟨xs,m,_,c,_,hlen,f⟩:=DataW.trod_array underlying23 h;rw[aj8] at c;simp only[Prod.mk.injEq,DataW.agg.injEq] at c;have hy:=f i hi;have b:(xs.map (·.1))[i]?=some (.lit (.int .i64 (FJ i:Nat))):=by
  rw[<-c.1,List.getElem?_map,List.getElem?_range hi];rfl
 rw[List.getElem?_map] at b;rw[List.getElem?_eq_getElem Z] at hy b;simp only[Option.map_some,Option.some.injEq] at b;generalize xs[i]=y at hy b;have⟨d,ps⟩:=y;simp only at b;subst b;simp only[Tw] at hy;have⟨a,g,e,_⟩:=DataW.trod_int underlying3 hy;simp only[Prod.mk.injEq,DataW.lit.injEq,Lit.int.injEq,true_and] at e;have:=congrArg (·[0]?) g;rw[e.1];simpa[List.getElem?_take,List.getElem?_drop] using this
end
end Go.Proofs.YtdjlkahbpdoemaaGreatDoor
namespace Go.Vx
section
variable {enc:TypeId×Value->aa}
theorem amQ{f:FuncId}{s:ChangeSpec}(l:∀(w w':Z0) (args:Array Value),w.heap=w'.heap->X w args->X w' args)(own:ownKnob C.prog.godebug=none)(started:os.Started)(b:C.prog.inits.idxOf? f=none)(m:C.prog.funcs[f]?=some fn)(witness:∃(w:Z0) (tape:Tape) (i:Input),w.os=os/\(w.forCall tape i).Shaped C.prog/\i.vars=[]/\Input.okWide C.prog (w.forCall tape i) .any w.heap.size f i/\
   ((s.pre enc C.prog fn conds apart (w.forCall tape i).memory i.args/\X (w.forCall tape i).memory i.args)/\sizedMet enc C.prog fn (OpenSpec.ofChange s) apart (w.forCall tape i).memory i.args)/\a.holds C.prog (lone (Frame.enter C.prog f i.args .normal) [] (w.forCall tape i)))(c:∀(W:Z0) (base:Nat) (args:Array Value) (ds gs:List (DataW aa)) (before:List MemPlace),
   (∀(j:Nat) t v,fn.params[j]?=some t->args[j]?=some v->Value.okWide C.prog W .any base t v)->
   DataW.Whole enc C.prog fn.params.toList s.vars apart W args.toList ds gs before->X W args->W.ShapedOpen C.prog->
   Calls C.prog f args W λe k=>∃v,Zr e v/\s.post enc C.prog fn apart fresh handsOn again W args v k):
  ReturnsInHanded a C os f .any (λw args=>(s.pre enc C.prog fn conds apart w args/\X w args)/\sizedMet enc C.prog fn (OpenSpec.ofChange s) apart w args) (s.post enc C.prog fn apart fresh handsOn again):=by
 refine returnsInHanded_of_calls own started b witness ?_;intro w tape i _ d _ n g _;have⟨_,_,_,o,h,_,_,_,_,p⟩:=n;have e:=Option.some.inj (h.symm.trans m);subst e;have⟨⟨⟨ds,gs,before,hw,_⟩,q⟩,_⟩:=g;refine(c (w.forCall tape i) w.heap.size i.args ds gs before p (DataW.Whole.of_heap (w':=w.forCall tape i) (by rfl) hw) (l _ _ _ (by rfl) q) d).mono λe k ⟨v,he,hp⟩=>?_;subst he;exact ChangeSpec.post_blind hp
end
end Go.Vx
namespace Go.Proofs.YtdjlkahbpdoemaaGreatDoor
section
open Go.Deep
theorem gNs : prog.globalNamed "vault/caps.noSlot" = some 1 := Zx
theorem tNs:(prog.globals[1]?).map (·.type)=some 45:=Zx
theorem U9{α:Type}:∀(l:List α),l.length=2->∃a b,l=[a,b]
 |[a,b],_=>⟨a,b,rfl⟩
 |[],h=>by simp at h
 |[_],h=>by simp at h
 |_::_::_::_,h=>by simp at h
theorem aiJ{W:Z0}{base:Nat}(h:DataW.trod enc prog W base sp held fuel 45 [v0,v1]=some (Rows.laid_vault_caps_noSlot,q)):v0=.int .i64 (-1)/\v1=.int .i64 (-1):=by
 have⟨xs,k,hk,c,_,f,a⟩:=DataW.trod_struct underlying45 h;obtain⟨g,i,rfl⟩:=U9 xs f;have g0:=a 0 _ rfl;have g1:=a 1 _ rfl;simp[Tw] at g0 g1;have⟨n0,d,d0,j⟩:=DataW.trod_int underlying3 g0;have⟨n1,e,d1,l⟩:=DataW.trod_int underlying3 g1;simp only[List.cons.injEq,and_true] at d e;subst d e;simp only[Prod.mk.injEq,Rows.laid_vault_caps_noSlot,List.map_cons,List.map_nil,DataW.agg.injEq,List.cons.injEq,and_true] at c;have⟨⟨b,h1⟩,_⟩:=c;rw[d0] at b;rw[d1] at h1;simp only[DataW.lit.injEq,Lit.int.injEq,true_and] at b h1;rw[<-b,<-h1];exact⟨rfl,rfl⟩
end
end Go.Proofs.YtdjlkahbpdoemaaGreatDoor

import Derived.Test.YtphkconoooeidaaGreatDoorCp37
set_option maxRecDepth 100000
set_option maxHeartbeats 8000000
set_option linter.unusedVariables false
set_option linter.unusedSimpArgs false
open Go Go.Vx Go.Proofs.Tryz Go.ChangeShapes Go.WideShapes Go.ChangeAt Go.RowKit
namespace Go.Vx
section
variable {H:Type} {enc:TypeId×Value->H}
theorem aew {a:Assume} {C:Checked} {os:Os} {f:FuncId} {fn:Func} {s:ChangeSpec} {conds:List PathCond} {apart fresh handsOn again:Bool} {X:World->Array Value->Prop}
  (hX:∀(w w':World) (args:Array Value),w.heap=w'.heap->X w args->X w' args)
  (own:ownKnob C.prog.godebug=none) (started:os.Started) (ab9:C.prog.inits.idxOf? f=none) (Lm:C.prog.funcs[f]?=some fn)
  (witness:∃(w:World) (tape:Tape) (i:Input),w.os=os/\(w.forCall tape i).Shaped C.prog/\i.vars=[]/\Input.okWide C.prog (w.forCall tape i) .any w.heap.size f i/\
   ((s.pre enc C.prog fn conds apart (w.forCall tape i).memory i.args/\X (w.forCall tape i).memory i.args)/\sizedMet enc C.prog fn (OpenSpec.ofChange s) apart (w.forCall tape i).memory i.args)/\a.holds C.prog (lone (Frame.enter C.prog f i.args .normal) [] (w.forCall tape i)))
  (af2:∀(W:World) (base:Nat) (args:Array Value) (ds gs:List (DataW H)) (before:List MemPlace),
   (∀(j:Nat) t v,fn.params[j]?=some t->args[j]?=some v->Value.okWide C.prog W .any base t v)->
   DataW.Whole enc C.prog fn.params.toList s.vars apart W args.toList ds gs before->X W args->W.ShapedOpen C.prog->
   (DataW.weightsEach C.prog (fn.params.toList++s.plain.varTypes C.prog) (ds++gs)).all (·<=reachBytes)=true->
   Calls C.prog f args W λe W'=>∃v,Zr e v/\s.post enc C.prog fn apart fresh handsOn again W args v W'):
  ReturnsInHanded a C os f .any (λw args=>(s.pre enc C.prog fn conds apart w args/\X w args)/\sizedMet enc C.prog fn (OpenSpec.ofChange s) apart w args) (s.post enc C.prog fn apart fresh handsOn again):=by
 refine returnsInHanded_of_calls own started ab9 witness ?_;intro w tape i _ hsh _ tC ae4 _;obtain⟨_,_,_,fn',aen,_,_,_,_,GJ⟩:=tC;have e:fn'=fn:=Option.some.inj (aen.symm.trans Lm);subst e;obtain⟨⟨⟨ds,gs,before,hw,_⟩,hx⟩,hz⟩:=ae4;have hw':=DataW.Whole.of_heap (w':=w.forCall tape i) (by rfl) hw;refine(af2 (w.forCall tape i) w.heap.size i.args ds gs before GJ hw' (hX _ _ _ (by rfl) hx) hsh (hz.weights hw)).mono λe W' ⟨v,he,hp⟩=>?_
 subst he;exact ChangeSpec.post_blind hp
end
end Go.Vx
namespace Go.Proofs.YtphkconoooeidaaGreatDoor
section
open Go.Deep
def Xq:Value:=.agg #[Zi 0,.slice none 0 0,Zu 0,.slice none 0 0,.slice none 0 0,.slice none 0 0,.slice none 0 0,.slice none 0 0,.slice none 0 0]
theorem acA (os:Os) (started:os.Started) (H:Type) (enc:TypeId×Value->H):
  ReturnsInHanded {} checked os 3 .any (λw args=>(Rows.kernBootsSpec.pre enc prog f3 [] false w args/\laidMetH prog Dh w)/\sizedMet enc prog f3 (OpenSpec.ofChange Rows.kernBootsSpec) false w args)
   (Rows.kernBootsSpec.post enc prog f3 false true false false):=by
 refine aew (C:=checked) (X:=λw _=>laidMetH prog Dh w) (λ_ _ _ hh h=>h.of_heap hh) own started (by kernel_rfl) func3
  (ChangeSpec.witness_shaped (enc:=enc) (C:=checked) (os:=os) (X:=λw _=>laidMetH prog Dh w) false (World.doorLaid prog 400 os) #[Xq] 8 rfl (World.shaped_of_RefB (by kernel_rfl) (by kernel_rfl)) (by kernel_rfl) (by kernel_rfl) (by kernel_rfl) (ack os _)) ?_
 intro W base args ds gs before Q7 hW hL hSh aR;have GJ:∀(j:Nat) t v,f3.params[j]?=some t->args[j]?=some v->Value.okWide prog W .any base t v:=Q7;have LA:=hW;obtain⟨p,q,SE,hV,rfl,kk,gZ⟩:=hW;have hA:DataW.TrodAll enc prog W 0 (λ_=>true) true f3.params.toList args.toList ds p:=SE;rw[params3] at hA GJ;obtain⟨v0,d0,Sq,rfl,h0⟩:=trodAll_one hA;obtain⟨rfl,rfl⟩:=trodVars_none hV;have aev:args=#[v0]:=by first|exact Sq|(obtain⟨l⟩:=args;simpa using Sq)
 subst aev
 have hz:∀n∈d0.weights prog 31,n<=reachBytes:=λn hn=>by
  have h9:=List.all_eq_true.1 aR n (DataW.weights_mem_each (j:=0) (t:=31) (d:=d0) (by rw[params3];rfl) rfl n hn);simpa using h9
 obtain⟨S,vt,vo,vb,vc,vm,vr,vi,rfl,hS,di⟩:=aax (GJ 0 31 v0 rfl rfl) h0 hz;have hU:=ab4 hL hSh;clear SE Q7;simp only[List.append_nil] at LA;have ah:∀x∈p,x.block<W.heap.size:=λx hx=>by simpa using LA.lt x hx
 have jI:=acz hU S hS di;refine jI.mono λe W' ⟨he,hb⟩=>?_
 subst he;exact⟨_,rfl,_,_,_,[],p,[],LA,trodAll_mk1 (shut_bool underlying4 _),trodAll_mk1 (Below.trod laidOut (by kernel_rfl) (of_decide_eq_true (by kernel_rfl)) h0 hb ah),rfl,hb.frame _,λh=>by cases h⟩
theorem acy:Rows.KernBootsSaid:=
 OpenClaim.holds_of_wide 3 f3 rfl rfl rfl rfl rfl rfl rfl ⟨rfl,rfl,rfl,rfl,rfl⟩ rfl rfl rfl rfl rfl (by kernel_rfl) func3 acB
  (of_decide_eq_true (by kernel_rfl)) (by unfold Func.isWrapper;first|(rw[if_pos (by decide+kernel)];kernel_rfl)|(rw[if_neg (by decide+kernel)];exact⟨rfl,rfl⟩))
  (λos started H enc _=>acA os started H enc)
theorem kernBoots_holds:Rows.KernBootsCardSaid:=
 Claim7.holds_tied_plain_at .later [] [.data] true _ false
  acy (λ_ h=>by cases h) (by kernel_rfl) (λ_ h=>by cases h) kernBoots_row_tie rfl ⟨rfl,rfl⟩ (by kernel_rfl) rfl
  (λf fn hf Lm=>by
   obtain rfl : f = 3 := Option.some.inj ((show prog.funcNamed "vault/vaultlaw.KernBoots" = some 3 by kernel_rfl).symm.trans hf) |>.symm
   obtain rfl:fn=f3:=(Option.some.inj (func3.symm.trans Lm)).symm
   exact⟨by kernel_rfl,λj t ht=>by
    rw[params3] at ht;have hm:t∈[31]:=by simpa using Array.mem_of_getElem? ht
    have vf:([31].all λu=> !prog.wantsStandIn u)=true:=by kernel_rfl
    exact(show prog.wantsStandIn t=false by simpa using List.all_eq_true.1 vf t hm)⟩)
  (by kernel_rfl)
#print axioms kernBoots_holds
end
end Go.Proofs.YtphkconoooeidaaGreatDoor

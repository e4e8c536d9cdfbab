import Derived.Test.YtdjlkahbpdoemaaGreatDoorCq31
import Derived.LaidOnce
import Derived.Lay
set_option maxRecDepth 100000
set_option maxHeartbeats 8000000
set_option linter.unusedVariables false
set_option linter.unusedSimpArgs false
open Go Go.Vx Go.Proofs.Tryz Go.ChangeShapes Go.WideShapes Go.ChangeAt Go.RowKit
namespace Go.Proofs.YtdjlkahbpdoemaaGreatDoor
section
open Go.Deep
theorem aky(os:Os)(started:os.Started)(B:Type)(enc:TypeId×Value->B):
  ReturnsInHanded {} checked os 3 .any (λw args=>(Rows.kernAnswersSpec.pre enc prog f3 [] false w args/\laidMetH prog Ab w)/\sizedMet enc prog f3 (OpenSpec.ofChange Rows.kernAnswersSpec) false w args)
   (Rows.kernAnswersSpec.post enc prog f3 false true false false):=by
 refine amQ (C:=checked) (X:=λw _=>laidMetH prog Ab w) (λ_ _ _ D h=>h.of_heap D) own started (by kernel_rfl) func3
  (ChangeSpec.witness_shaped (enc:=enc) (C:=checked) (os:=os) (X:=λw _=>laidMetH prog Ab w) false (World.laidAll prog os Ab) #[.slice none 0 0,.agg #[O 0,O 0,O 0],.slice none 0 0] 8 (World.laidAll_os _ _ _)
   (World.shaped_of_ZipB (by kernel_rfl) (by kernel_rfl)) (by kernel_rfl) (by kernel_rfl) (by kernel_rfl)
   (by rw[MakeChecks.laidMetH_plain _ _ _ (by kernel_rfl)];exact laidMet_laidAll _ (by kernel_rfl) (by kernel_rfl))) ?_
 intro W base args ds gs before r s F d;have i:∀(j:Nat) t v,f3.params[j]?=some t->args[j]?=some v->Value.okWide prog W .any base t v:=r;have m:=s;obtain⟨p,q,f,G,rfl,uE,dz⟩:=s;have u:DataW.TrodAll enc prog W 0 (λ_=>true) true f3.params.toList args.toList ds p:=f;rw[params3] at u i;obtain⟨v0,v1,v2,d0,d1,d2,K,N,P,g,rfl,rfl,x,h1,z⟩:=trodAll_three u;obtain⟨rfl,rfl⟩:=trodVars_none G;have n:args=#[v0,v1,v2]:=by first|exact g|(obtain⟨l⟩:=args;simpa using g)
 subst n;obtain⟨xs,Q,R⟩:=ai7 (i 0 22 v0 rfl rfl) x;obtain⟨a,b,c,rfl,ha,hb,S⟩:=ai9 (i 1 23 v1 rfl rfl) h1;obtain⟨ps,hp,T⟩:=ai8 (i 2 24 v2 rfl rfl) z;obtain⟨mx,A⟩:=ajr d;obtain⟨U,V,fP,iB⟩:=aiv F d;clear f r;simp only[List.append_nil] at m;have o:∀y∈K++N++P,y.block<W.heap.size:=λy hy=>by simpa using m.lt y hy
 have ka:=akx iB U V fP A (World.block_lt_of_cell? W _ A) Q R hp T a b c ha hb S;refine ka.mono λe W' ⟨he,k⟩=>?_
 subst he;exact⟨_,rfl,_,_,_,[],_,[],m,trodAll_mk1 (shut_bool underlying4 _),trodAll_mk3 (Below.trod laidOut (by kernel_rfl) (of_decide_eq_true (by kernel_rfl)) x k (λy hy=>o y (by simp[hy]))) (Below.trod laidOut (by kernel_rfl) (of_decide_eq_true (by kernel_rfl)) h1 k (λy hy=>o y (by simp[hy]))) (Below.trod laidOut (by kernel_rfl) (of_decide_eq_true (by kernel_rfl)) z k (λy hy=>o y (by simp[hy]))),rfl,k.frame _,λh=>by cases h⟩
theorem akw:Rows.KernAnswersSaid:=
 OpenClaim.holds_of_wide 3 f3 rfl rfl rfl rfl rfl rfl rfl ⟨rfl,rfl,rfl,rfl,rfl⟩ rfl rfl rfl rfl rfl (by kernel_rfl) func3 akz
  (of_decide_eq_true (by kernel_rfl)) (by unfold Func.isWrapper;first|(rw[if_pos (by decide+kernel)];kernel_rfl)|(rw[if_neg (by decide+kernel)];exact⟨rfl,rfl⟩))
  (λos started a enc _=>aky os started a enc)
theorem al6:Rows.kernAnswersRow.wfByText (OpenSpec.ofChange Rows.kernAnswersSpec)=true:=by kernel_rfl
theorem al9:Tryz.pinned.checked.prog.mainIs=some (true,Rows.kernAnswersCard.stood.harness.2.toList):=by kernel_rfl
theorem al8 : prog.funcNamed "vault/vaultkeep.KernAnswers" = some 3 := by kernel_rfl
theorem ala:true=Tryz.pinned.checked.prog.looks []:=by kernel_rfl
theorem al7:([22,23,24].all λu=> !prog.wantsStandIn u)=true:=by kernel_rfl
theorem alb:false=Rows.kernAnswersRow.goesBy Tryz.pinned.checked.prog:=by kernel_rfl
theorem kernAnswers_holds:Rows.KernAnswersCardSaid:=
 Claim7.holds_tied_plain_at .later [] [.data,.data,.data,.data,.data,.sentinel,.sentinel,.data,.data,.data,.pinned] true (true,Rows.kernAnswersCard.stood.harness.2) true
  akw (λ_ h=>by cases h) al6 (λ_ h=>by cases h) kernAnswers_row_tie rfl ⟨rfl,rfl⟩ al9 rfl
  (λf fn hf a=>by
   obtain rfl:f=3:=Option.some.inj (al8.symm.trans hf) |>.symm
   obtain rfl:fn=f3:=(Option.some.inj (func3.symm.trans a)).symm
   exact⟨ala,λj t ht=>by
    rw[params3] at ht;have hm:t∈[22,23,24]:=by simpa using Array.mem_of_getElem? ht
    exact(show prog.wantsStandIn t=false by simpa using List.all_eq_true.1 al7 t hm)⟩)
  alb
#print axioms kernAnswers_holds
end
end Go.Proofs.YtdjlkahbpdoemaaGreatDoor

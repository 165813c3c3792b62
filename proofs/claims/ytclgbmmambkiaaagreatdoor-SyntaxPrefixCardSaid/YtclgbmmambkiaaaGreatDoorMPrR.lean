/- SyntaxPrefix: its row, and its card. -/
import Derived.Test.YtclgbmmambkiaaaGreatDoorMPq
import Derived.Test.YtclgbmmambkiaaaGreatDoorCards
import Derived.Test.YtclgbmmambkiaaaGreatDoorTie
import Derived.SevenTiedAt
import Derived.ChangeMaps5
set_option maxRecDepth 100000
set_option maxHeartbeats 4000000
set_option linter.unusedVariables false
set_option linter.unusedSimpArgs false
namespace Go.Proofs.YtclgbmmambkiaaaGreatDoor
open Go.ChangeShapes Go.WideShapes Go.ChangeAt Go.WideMaps Go.WideElems Go.RowKit
open Go.ChangeMaps (open_string shut_string)
theorem syntaxPrefix_lifted(os:Os)(vX:os.Started)(H:Type)(enc:TypeId×Value->H) :
  ReturnsInHanded {} Tryz.checked os 6 .any (λw args=>(Rows.syntaxPrefixSpec.pre enc Tryz.prog Tryz.f6 [] false w args/\laidMetH Tryz.prog laid5 w)/\sizedMet enc Tryz.prog Tryz.f6 (OpenSpec.ofChange Rows.syntaxPrefixSpec) false w args)
   (Rows.syntaxPrefixSpec.post enc Tryz.prog Tryz.f6 false true false false):=by
 refine returnsInHanded_of_change_and (C:=Tryz.checked) (X:=λw _=>laidMetH Tryz.prog laid5 w) (λ_ _ _ hh h=>h.of_heap hh) own vX (by kernel_rfl) Tryz.func6
  (ChangeSpec.witness_shaped (enc:=enc) (C:=Tryz.checked) (os:=os) (X:=λw _=>laidMetH Tryz.prog laid5 w) false (World.doorLaid Tryz.prog 400 os) #[.string ⟨#[]⟩,.string ⟨#[]⟩] 8 rfl (World.shaped_of_RefB (by kernel_rfl) (by kernel_rfl)) (by kernel_rfl) (by kernel_rfl) (by kernel_rfl) (zqu os _)) ?_
 intro W base args ds gs eG fj hW _ mz hL _;have xM:∀(j:Nat) t v,Tryz.f6.params[j]? = some t->args[j]? = some v->Value.okWide Tryz.prog W .any base t v:=fj;have qv:=hW;obtain⟨p,q,hA0,hV,rfl,hfz,hnd⟩:=hW;have hA:DataW.TrodAll enc Tryz.prog W 0 (λ_=>true) true Tryz.f6.params.toList args.toList ds p:=hA0;rw[Tryz.params6]at hA xM mz;obtain⟨v0,v1,d0,d1,p0,p1,rfl,rfl,rfl,h0,h1⟩:=trodAll_two hA;obtain⟨rfl,rfl⟩:=trodVars_none hV;obtain⟨s,rfl,rfl,rfl,ws⟩:=open_string Tryz.underlying9 (xM 0 9 v0 rfl rfl) h0;obtain⟨s1,rfl,rfl,rfl,ws1⟩:=open_string Tryz.underlying9 (xM 1 9 v1 rfl rfl) h1;have bs:s.size<=140737488355328:=by
  have h:=List.all_eq_true.1 mz s.data.toList.length (by simp[DataW.weightsEach,DataW.weights]);have h:=of_decide_eq_true h;rw[qyv]at h;exact qyu h (by decide)
 have bs1:s1.size<=140737488355328:=by
  have h:=List.all_eq_true.1 mz s1.data.toList.length (by simp[DataW.weightsEach,DataW.weights]);have h:=of_decide_eq_true h;rw[qyv]at h;exact qyu h (by decide)
 have hG:Gl W:=zt4 hL;clear hA0 fj;simp only[List.append_nil]at qv;refine(zhm s s1 bs bs1 W hG).mono λe W' ⟨he,hO⟩ =>?_;subst he;have bel:Below W.heap.size W W':=Fr.below hO (qyb _) (λk e=>e.elim);refine⟨_,rfl,_,_,_,[],[],[],qv,?_,?_,?_,bel.frame _,λh=>by cases h⟩
 ·exact trodAll_mk1 (shut_bool Tryz.underlying4 _)
 ·exact trodAll_mk2 (shut_string Tryz.underlying9 ws) (shut_string Tryz.underlying9 ws1)
 ·rfl
theorem syntaxPrefix_holds:Rows.SyntaxPrefixSaid:=
 OpenClaim.holds_of_wide 6 Tryz.f6 rfl rfl rfl rfl rfl rfl rfl ⟨rfl,rfl,rfl,rfl,rfl⟩ rfl rfl rfl rfl rfl (by kernel_rfl) Tryz.func6 (by kernel_rfl)
  (of_decide_eq_true (by kernel_rfl)) (by unfold Func.isWrapper;first|(rw[if_pos (by decide +kernel)];kernel_rfl)|(rw[if_neg (by decide +kernel)];exact⟨rfl,rfl⟩))
  (λos vX H enc _=>syntaxPrefix_lifted os vX H enc)
theorem syntaxPrefix_card:Rows.SyntaxPrefixCardSaid:=
 Claim7.holds_tied_plain_at .later [] [.data,.data,.data,.sentinel,.sentinel] true (true, "97b7117fa6487fb488cf40ef5089ab8ee0d97008e73b654170a9eaee2bc5d6b8") true
  syntaxPrefix_holds (λ_ h=>by cases h) (by kernel_rfl) (λ_ h=>by cases h) syntaxPrefix_row_tie rfl ⟨rfl,rfl⟩ (by kernel_rfl) rfl
  (λf fn hf yI=>by
   obtain rfl:f=6:=qyj ((show Tryz.prog.funcNamed "restitch/restitchlaw02.SyntaxPrefix" = some 6 by kernel_rfl).symm.trans hf) |>.symm;obtain rfl:fn=Tryz.f6:=(qyj (Tryz.func6.symm.trans yI)).symm;exact⟨by kernel_rfl,λj t ht=>by
    rw[Tryz.params6]at ht;have hm:t ∈ [9,9]:=(by simpa using Array.mem_of_getElem? ht);have ql:([9,9].all λu => !Tryz.prog.wantsStandIn u)=true:=(by kernel_rfl);exact(show Tryz.prog.wantsStandIn t=false by simpa using List.all_eq_true.1 ql t hm)⟩)
  (by kernel_rfl)
end Go.Proofs.YtclgbmmambkiaaaGreatDoor

/- Behind any changes all is as a new one, brought to the same text, styles, folds and width at once, has it. -/
import Derived.Test.YtamhnffokoejjaaGreatDoorCards
import Derived.Test.YtamhnffokoejjaaGreatDoorTie
import Derived.Test.YtamhnffokoejjaaGreatDoorKwbh
import Derived.Test.YtamhnffokoejjaaGreatDoorKwbt
import Derived.Test.YtamhnffokoejjaaGreatDoorKwbd
set_option linter.all false
set_option maxRecDepth 100000
namespace Go.Proofs.YtamhnffokoejjaaGreatDoor.sceneNew
open Go.ChangeShapes Go.WideShapes Go.ChangeAt Go.RowKit
theorem readable:Tryz.f5.params.toList.all (fun t=>Tryz.prog.readableRec t && decide (t<Tryz.prog.types.size))=true:=AY
theorem lifted(os:Os)(started:os.Started)(H:Type)(enc:TypeId × Value->H):
 ReturnsInHanded {} Tryz.checked os 5 .any (fun w args=>(Rows.sceneNewSpec.pre enc Tryz.prog Tryz.f5 [] false w args/\laidMetH Tryz.prog UZ w)/\sizedMet enc Tryz.prog Tryz.f5 (OpenSpec.ofChange Rows.sceneNewSpec) false w args)
  (Rows.sceneNewSpec.post enc Tryz.prog Tryz.f5 false true false false):=by
 refine returnsInHanded_of_change_and (C:=Tryz.checked) (X:=fun w _=>laidMetH Tryz.prog UZ w) (fun _ _ _ hh h=>h.of_heap hh) own started AY Tryz.func5
  (ChangeSpec.witness_shaped (enc:=enc) (C:=Tryz.checked) (os:=os) (X:=fun w _=>laidMetH Tryz.prog UZ w) false (World.doorLaid Tryz.prog 400 os) #[.slice none 0 0,.slice none 0 0] 8 rfl (World.shaped_of_RefB AY AY) AY AY AY (jo os _)) ?_
 intro W base args ds gs before pu hW _ _ hL _;have su:∀(j:Nat) t v,Tryz.f5.params[j]?=some t->args[j]?=some v->Value.okWide Tryz.prog W .any base t v:=pu;have oz:=hW;obtain ⟨p,q,hA0,hV,rfl,hfz,hnd⟩:=hW;have hA:DataW.TrodAll enc Tryz.prog W 0 (fun _=>true) true Tryz.f5.params.toList args.toList ds p:=hA0;rw[Tryz.params5]at hA su;obtain ⟨v0,vs0,d0,ds0,p0,q0,qf,rfl,rfl,h0,r0⟩:=trodAll_cons hA;obtain ⟨v1,vs1,d1,ds1,p1,q1,rfl,rfl,rfl,h1,r1⟩:=trodAll_cons r0;obtain ⟨rfl,rfl,rfl⟩:=trodAll_nil r1;obtain rfl:args= #[v0,v1]:=by cases args;simp_all
 obtain ⟨rfl,rfl⟩:=trodVars_none hV;obtain ⟨z0,r0z,n0⟩:=Vd (su 0 22 v0 rfl rfl) h0;obtain ⟨l1,rl1⟩:=et (su 1 24 v1 rfl rfl) h1;have hg:=RD hL;clear hA0 pu;refine (UH v0 v1 z0 l1 W r0z n0 rl1 hg).mono fun e W' ⟨he,kw⟩=>?_
 subst he;exact ⟨_,rfl,jT nE oz rfl (Vp readable) (T:=4) AY Tryz.underlying4 rfl rfl rfl kw.below⟩
theorem c_inPlace:Tryz.pinned.checked.prog.inPlace 5=Rows.sceneNewRow.inPlace:=AY
theorem c_unfollowed:Tryz.pinned.checked.prog.unfollowed 5=Rows.sceneNewRow.unfollowed:=AY
theorem c_recurses:Tryz.pinned.checked.prog.recurses 5=Rows.sceneNewRow.recurses:=AY
theorem c_named:Tryz.pinned.checked.prog.varsNamed 5=Rows.sceneNewRow.named:=AY
theorem closed:joinedFacts Tryz.pinned.checked.prog 5 Tryz.f5 Rows.sceneNewSpec Rows.sceneNewRow=true:=by
 unfold joinedFacts;rw[c_inPlace,c_unfollowed,c_recurses,c_named]
 kernel_rfl
theorem over:Rows.sceneNewRow.holds Tryz.pinned (OpenSpec.ofChange Rows.sceneNewSpec):=
 OpenClaim.holds_of_wide 5 Tryz.f5 rfl rfl rfl rfl rfl rfl rfl ⟨rfl,rfl,rfl,rfl,rfl⟩ rfl rfl rfl rfl rfl AY Tryz.func5 closed
  (of_decide_eq_true AY) (by unfold Func.isWrapper;first|(rw[if_pos (by decide +kernel)];kernel_rfl)|(rw[if_neg (by decide +kernel)];exact ⟨rfl,rfl⟩))
  (fun os started H enc _=>lifted os started H enc)
theorem proved:Rows.SceneNewCardSaid:=
 Claim7.holds_tied_plain_at .later [] [.data] true (true,"9c9ca287d2b75f2dea76afd7152f5cd108ac5bccd6caf9210148df0a13258bab") false
  over (fun _ h=>by cases h) AY (fun _ h=>by cases h) sceneNew_row_tie rfl ⟨rfl,rfl⟩ AY rfl
  (fun f fn hf hfn=>by
   obtain rfl:f=5:=Option.some.inj ((show Tryz.prog.funcNamed "scrivener/scrivenerlaw23.SceneNew"=some 5 by kernel_rfl).symm.trans hf) |>.symm
   obtain rfl:fn=Tryz.f5:=(Option.some.inj (Tryz.func5.symm.trans hfn)).symm
   exact ⟨AY,fun j t ht=>by
    rw[Tryz.params5]at ht;rcases j with _|j
    ·obtain rfl:t=22:=by simpa using ht.symm
     exact (show Tryz.prog.wantsStandIn 22=false by kernel_rfl)
    rcases j with _|j
    ·obtain rfl:t=24:=by simpa using ht.symm
     exact (show Tryz.prog.wantsStandIn 24=false by kernel_rfl)
    simp at ht⟩)
  AY
#print axioms proved
end Go.Proofs.YtamhnffokoejjaaGreatDoor.sceneNew

import Derived.Deep.Slices
import Derived.DataShut
import Derived.Test.YtamhnffokoejjaaGreatDoorKwaa
import Derived.Test.YtamhnffokoejjaaGreatDoorRows
set_option linter.all false
namespace Go.Proofs.YtamhnffokoejjaaGreatDoor
open Go.ChangeShapes Go.WideShapes Go.ChangeAt Go.RowKit
section
theorem JP{a:Int}(h:(Lit.int .i64 a).wf=true): -9223372036854775808<=a/\a<=9223372036854775807:=(Lit.wf_int_iff .i64 a).1 h
theorem kI{a:Int}(h:(Lit.int .u8 a).wf=true):0<=a/\a<=255:=(Lit.wf_int_iff .u8 a).1 h
section
variable {H:Type}{enc:TypeId × Value->H}{P:Program}
theorem Rc(hl:laidOutB P=true){W W':World}(hb:Below W.heap.size W W'){sp:Nat->Bool}:
 ∀(ts:List TypeId) (vs:List Value) (ds:List (DataW H)) (ps:List MemPlace),(∀t∈ts,P.readableRec t=true/\t<P.types.size)->
  DataW.TrodAll enc P W 0 (fun _=>true) true ts vs ds ps->(∀x∈ps,x.block<W.heap.size)->(∀x∈ps,sp x.block=true)->DataW.TrodAll enc P W' 0 sp true ts vs ds ps:=by
 intro ts
 induction ts with
 |nil=>
  intro vs ds ps _ h _ _;obtain ⟨rfl,rfl,rfl⟩:=trodAll_nil h;exact trodAll_mk0
 |cons t ts ih=>
  intro vs ds ps hr h BN mJ;obtain ⟨v,vs',d,ds',p,q,rfl,rfl,rfl,h1,h2⟩:=trodAll_cons h;obtain ⟨r1,r2⟩:=hr t (by simp);refine trodAll_cons_mk ?_ (ih vs' ds' q (fun t ht=>hr t (by simp[ht])) h2 (fun x hx=>BN x (by simp[hx])) (fun x hx=>mJ x (by simp[hx])));exact WideElems.Trod_stays hl r1 r2 h1 (fun x hx=>hb.same (BN x (by simp[hx]))) (fun x hx=>mJ x (by simp[hx]))
theorem Vp{ts:List TypeId}(h:ts.all (fun t=>P.readableRec t && decide (t<P.types.size))=true):∀t∈ts,P.readableRec t=true/\t<P.types.size:=by
 intro t ht;have:=List.all_eq_true.1 h t ht
 simpa using this
theorem jT{f:Func}{s:ChangeSpec}{fresh:Bool}{W W':World}{args:Array Value}{ds gs:List (DataW H)}{before:List MemPlace}{T:TypeId}
 (hl:laidOutB P=true) (hW:DataW.Whole enc P f.params.toList s.vars false W args.toList ds gs before) (hv:s.vars=[])
 (hr:∀t∈f.params.toList,P.readableRec t=true/\t<P.types.size) (hT:f.resultTypes= #[T]) (hu:P.underlying T=some .bool)
 (h1:(s.fn H (ds++gs)).results=[.lit (.bool true)]) (h2:(s.fn H (ds++gs)).args=ds) (h3:(s.fn H (ds++gs)).vars=[]) (hb:Below W.heap.size W W'):
 s.post enc P f false fresh false false W args (.bool true) W':=by
 have BN:∀p∈before,p.block<W.heap.size:=fun p hp=>hW.lt p hp
 have hW0:=hW;obtain ⟨p,q,hA,hV,rfl,hz,hn⟩:=hW;rw[hv]at hV;obtain ⟨rfl,rfl⟩:=trodVars_none hV;rw[List.append_nil]at BN;have qf:∀sp:Nat->Bool,(∀x∈p,sp x.block=true)->DataW.TrodAll enc P W' 0 sp true f.params.toList args.toList ds p:=
  fun sp mJ=>Rc hl hb _ _ _ _ hr hA BN mJ
 have zw:∀(b:Nat) (sp:Nat->Bool) (hd:Bool),DataW.TrodAll enc P W' b sp hd f.resultTypes.toList ((Value.bool true).resultList f.resultTypes.size) [.lit (.bool true)] []:=by
  intro b sp hd;rw[hT];exact trodAll_cons_mk (shut_bool hu true) trodAll_mk0
 refine ⟨ds,[],p++[],[],p,[],hW0,?_,?_,?_,World.keptBut_mono (fun x hx=>⟨hx,Or.inr (Or.inl (by simpa using hx))⟩) (hb.frame (· ∈p++[])),fun h=>by cases h⟩
 ·rw[h1];exact zw _ _ _
 ·rw[h2];exact qf _ (fun x hx=>by simpa using BN x hx)
 ·rw[h3,hv];exact rfl
def QV(g:TypeId->Option (List (Option IntKind)))(P:Program):List Field->Nat->Option (List (Option IntKind))
 |[],_=>some []
 |f::fs,off=>
  match g f.type with
  |some ks=>if f.offset=off/\P.cellsOf f.type=ks.length then (QV g P fs (off+ks.length)).map (ks++ ·) else none
  |none=>none
def flatK(P:Program):Nat->TypeId->Option (List (Option IntKind))
 |0,_=>none
 |d+1,t=>
  match P.underlying t with
  |some (.int k)=>some [some k]
  |some .bool=>some [none]
  |some (.array n e)=>
   match flatK P d e with
   |some ks=>if P.cellsOf e=ks.length/\P.cellsOf t=n*ks.length then some (List.replicate n ks).flatten else none
   |none=>none
  |some (.struct fs)=>
   match QV (flatK P d) P fs.toList 0 with
   |some ks=>if P.cellsOf t=ks.length then some ks else none
   |none=>none
  |_=>none
variable {w:World}{base:Nat}{spare:Nat->Bool}{held:Bool}
end
end
end Go.Proofs.YtamhnffokoejjaaGreatDoor

import Derived.Deep.AppendLies
import Derived.Test.YtamhnffokoejjaaGreatDoorKwad
set_option linter.all false
namespace Go.Proofs.YtamhnffokoejjaaGreatDoor
open Go.RowKit
section
variable{cs:Array Value}{xs:List Value}{B F n size:Nat}{o:Oper}{row:Option Nat}{P:Program}{e t:TypeId}{v:Value}{w w' w2:World}
theorem GG(h:AA w w')(o:w.ownsRow B e size v n xs):w'.ownsRow B e size v n xs:=by
 refine ⟨o.1,?_⟩;rcases o.2 with k|⟨g,cap,cur,h1,h2,h3,h4⟩
 ·exact .inl k
 ·exact .inr ⟨g,cap,cur,h1,h2,AB h h3,h4⟩
theorem JJ(hF:w.heap[F]?=some (.cells cs t))(Az:t≠e)(x:Value)(i:Nat)(o:w.ownsRow B e size v n xs):(w.setCell ⟨F,i,none⟩ x).ownsRow B e size v n xs:=by
 refine ⟨o.1,?_⟩;rcases o.2 with k|⟨g,cap,cur,h1,h2,h3,h4⟩
 ·exact .inl k
 ·refine .inr ⟨g,cap,cur,h1,h2,Bh ?_ h3,h4⟩;rintro rfl;rw[hF]at h3;cases h3;exact Az rfl
theorem UN(o:w.ownsRow B e size v n xs)(hF:w.heap[F]?=some (.cells cs t))(Az:t≠e):v.ownBlock≠some F:=by
 rcases o.2 with ⟨rfl,_⟩|⟨g,cap,cur,rfl,_,h3,_⟩
 ·intro h;cases h
 ·intro h;obtain rfl:g=F:=by simpa[Value.ownBlock] using h
  rw[hF]at h3;cases h3;exact Az rfl
theorem DI(o:w.ownsRow B e size v n xs):∀k,v.ownBlock=some k->B<=k:=by
 rcases o.2 with ⟨rfl,_⟩|⟨g,cap,cur,rfl,h2,_⟩
 ·intro k h;cases h
 ·intro k h;obtain rfl:g=k:=by simpa[Value.ownBlock] using h
  exact h2
theorem CP{W:World}(h:AA W w)(hg:w.grownBy w2 row)(oh:∀k,row=some k->W.heap.size<=k):AA W w2:=
 .of ⟨hg.os.trans h.below.os,hg.tape.trans h.below.tape,hg.output.trans h.below.output,Nat.le_trans h.below.size hg.size,
  fun k hk=>(hg.block k (Nat.lt_of_lt_of_le hk h.below.size) (fun e=>by have:=oh k e.symm;omega)).trans (h.below.block k hk)⟩
theorem FF{k:Nat}{o:Obj}(hg:w.grownBy w2 row)(h:w.heap[k]?=some o)(Az:row≠some k):w2.heap[k]?=some o:=
 (hg.block k (As h) (fun e=>Az e.symm)).trans h
theorem Wild.Ea{F:Act}{is:Value->World->Prop}(h:(execOp F.eval o).run P w=.ok (.value v) w')(ha:AA w w')(hi:is v w'):BF P F o w fun u w'=>AA w w'/\is u w'/\(true=true->Wild.Ei u w w'):=by
 unfold BF;rw[h];exact ⟨ha,hi,fun _ b hb=>by cases hb⟩
theorem Wild.lQ{F:Act}{is:Value->World->Prop}(s x:Operand)(t tn:TypeId)(ho:o.op=.call {callee:=.builtin .append,args:= #[s,x],argTypes:= #[t,tn]})(vs vx:Value)(hs:F.eval s=vs)(hx:F.eval x=vx)
 (hr:(Builtin.append_ #[t,tn] o.type #[vs,vx]).run P w=.ok v w') (ha:AA w w') (hi:is v w'):BF P F o w fun u w'=>AA w w'/\is u w'/\(true=true->Wild.Ei u w w'):=by
 refine Wild.Ea ?_ ha hi;unfold execOp;simp only[ho,resolve,invoke,builtin,Sem.run_bind,Sem.run_pure,Result.andThen_ok,List.map_toArray,List.map_cons,List.map_nil,hs,hx,hr]
def lz(u:Value)(_:World):Prop:=∃a,u=.slice (some a) 0 0
theorem lz.stays(_:AA w w')(h:lz v w):lz v w':=h
theorem AA.grown(h:w.grownBy w' none):AA w w':=CP (AA.refl w) h (fun k hk=>by cases hk)
end
end Go.Proofs.YtamhnffokoejjaaGreatDoor

import Derived.Deep.DeepCutAuto
import Derived.Deep.CutBlock
import Derived.Test.YtamhnffokoejjaaGreatDoorKwbg
set_option linter.all false
namespace Go.Proofs.YtamhnffokoejjaaGreatDoor
open Go.RowKit
theorem E4.put{w w':World}{tg g:Nat}{most:Int}{t t2:Tr}(h:E4 w tg g most t)(hb:LL g w w')(h2:KE w' g most t2):E4 w' tg g most t2:=by
 refine ⟨hb.own h.1 (fun e=>?_),h2⟩;obtain ⟨rv,q,_⟩:=h.2;rw[<-e,h.1]at q;cases q
end Go.Proofs.YtamhnffokoejjaaGreatDoor
